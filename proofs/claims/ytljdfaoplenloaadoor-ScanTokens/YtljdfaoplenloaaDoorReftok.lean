/- What panicroadref.tokenAt answers. -/
import Derived.Test.YtljdfaoplenloaaDoorRefsign
import Derived.Test.YtljdfaoplenloaaDoorReftext
import Derived.Test.YtljdfaoplenloaaDoorReadnum
namespace Go.Proofs.YtljdfaoplenloaaDoor
open Go.ChangeShapes Go.WideShapes Go.ChangeAt Go.RowKit
set_option maxRecDepth 100000
set_option linter.unusedSimpArgs false
set_option linter.unusedVariables false

theorem tx_of {l r : List UInt8} (h : l = 34 :: r) : (rqE l = 0 ∧ 0 < txN l ∧ rqN l = txN l) ∨ (rqE l = 4 ∧ txN l = 0) := by
  subst h
  unfold txN rqE rqN rq
  simp only [List.drop_succ_cons, List.drop_zero]
  cases hr : rd r with
  | none => right; simp [hr]
  | some p =>
    obtain ⟨u, n⟩ := p
    by_cases hu : u.length ≤ 200
    · left; simp [hr, hu]
    · right; simp [hr, hu]
def Tok3 (s : ByteArray) (h0 : 0 < s.size) (w : World) (e : Ending) (w' : World) : Prop :=
  e = .returned (.tuple #[.int .i64 (fsT s h0).1, .int .i64 (fsT s h0).2.1, .int .i64 (fsT s h0).2.2]) ∧ Below w.heap.size w w'
theorem tok3_of {s : ByteArray} {h0 : 0 < s.size} {w w' : World} {a b c : Int} (h : fsT s h0 = (a, b, c)) (hb : Below w.heap.size w w') : Tok3 s h0 w (.returned (.tuple #[.int .i64 a, .int .i64 b, .int .i64 c])) w' := by
  unfold Tok3; rw [h]; exact ⟨rfl, hb⟩
set_option maxHeartbeats 4000000 in
theorem ref_token (s : ByteArray) (w : World) (h0 : 0 < s.size) (hs : s.size ≤ 140737488355328) :
    Calls Tryd.prog 19 #[.string s] w (Tok3 s h0 w) := by
  have hm : s.size ≤ maxLen := by unfold maxLen; omega
  have HG : Hid (∀ (k : Nat) (h : k < s.size), s.data.toList[k]? = some s[k]) := fun k h => by rw [get_list s k h, List.getElem?_eq_getElem]
  have HZ : Hid (s.data.toList.length = s.size) := bsize_list s
  have HNM : Hid (∀ k, runN s.data.toList = k → ltrI (s[0].toNat : Int) = true → k ≤ s.size → fsT s h0 = if 16 < k then (0, 0, 7) else if wordB (s.extract 0 k) then (5, (k : Int), 0) else (1, (k : Int), 0)) := fun k hr hl hk => by
    unfold fsT nmT
    rw [hl, if_pos rfl, hr, ext_size s k hk]
  have HIN : Hid (∀ k, runN s.data.toList = k → ltrI (s[0].toNat : Int) = false → dgtI (s[0].toNat : Int) = true → k ≤ s.size → fsT s h0 = if rdE (s.extract 0 k) = 0 then (2, (k : Int), 0) else (0, 0, 3)) := fun k hr hl hd hk => by
    unfold fsT inT
    rw [hl, if_neg (by decide), hd, if_pos rfl, hr, ext_size s k hk]
  have HOT : Hid (ltrI (s[0].toNat : Int) = false → dgtI (s[0].toNat : Int) = false → fsT s h0 = if s[0] = 34 then txT s.data.toList else if s[0] = 59 then (6, 1, 0) else sgT s) := fun hl hd => by
    unfold fsT
    rw [hl, if_neg (by decide), hd, if_neg (by decide)]
  have HTX : Hid (∀ W, Calls Tryd.prog 37 #[.string s] W fun e w' => e = .returned (.int .i64 (txN s.data.toList)) ∧ w' = W) := fun W => qtx_any s W hm
  have HTO : Hid (s[0] = 34 → (rqE s.data.toList = 0 ∧ 0 < txN s.data.toList ∧ rqN s.data.toList = txN s.data.toList) ∨ (rqE s.data.toList = 4 ∧ txN s.data.toList = 0)) := fun e => by
    have h1 := drop_at s 0 h0
    rw [List.drop_zero, e] at h1
    exact tx_of h1
  have HSG : Hid (sgT s = if sgnN s = 0 then (0, 0, 2) else (4, (sgnN s : Int), 0)) := rfl
  have HSZ : Hid ((bestN s 29).size = sgnN s) := best_size s h0
  have HTT : Hid (txT s.data.toList = if rqE s.data.toList = 0 then (3, (rqN s.data.toList : Int), 0) else (0, 0, 4)) := rfl
  have HLD : Hid (∀ c : UInt8, lod c = (ltrI c.toNat || dgtI c.toNat)) := fun _ => rfl
  generalize s.data.toList = l at *
  go_enter Tryd.func19, Tryd.ntmps19
  go_wp2
  go_loopw [5] (fun i wr => ∃ k : Nat, k ≤ s.size ∧ i = .int .i64 k ∧ wr = w ∧ Hid (∀ j, j < k → ∃ c, l[j]? = some c ∧ lod c = true)) (fun i _ => s.size - (intOf i).toNat)
  case atStart => exact ⟨0, Nat.zero_le _, rfl, rfl, fun j hj => by omega⟩
  case round =>
    obtain ⟨k, hk, rfl, rfl, HK⟩ := hrel
    by_cases hlt : k < s.size
    · have hli : decide ((k : Int) < (s.size : Int)) = true := by simp; omega
      cases hL : ltrI (s[k].toNat : Int)
      · cases hD : dgtI (s[k].toNat : Int)
        · have HR : Hid (runN l = k) := runN_eq l k HK.out (.inr ⟨s[k], HG.out k hlt, by unfold lod; rw [hL, hD]; rfl⟩)
          have HL : Hid (ltrI (s[k].toNat : Int) = false) := hL
          have HD : Hid (dgtI (s[k].toNat : Int) = false) := hD
          clear hL hD
          by_cases hk0 : k = 0
          · subst hk0
            have HE := HOT.out HL.out HD.out
            clear HNM HIN HK HG HZ HLD HR
            by_cases hq : s[0] = 34
            · have b1 : ((s[0].toNat : Int) == 34) = true := by rw [hq]; decide
              rw [if_pos hq, HTT.out] at HE
              rcases HTO.out hq with ⟨q1, q2, q3⟩ | ⟨q1, q2⟩
              · rw [if_pos q1, q3] at HE
                have HE' : Hid (fsT s h0 = (3, (txN l : Int), 0)) := HE
                clear HE hq HTO HTT HSG HSZ HOT q1 q3
                generalize txN l = n at *
                have b2 : ((n : Int) == 0) = false := by rw [beq_eq_false_iff_ne]; omega
                go_wp2_with fail
                refine (ref_letter _ _).mono ?_
                rintro e w1 ⟨rfl, rfl⟩
                rw [HL.out]
                go_wp2_with fail
                refine (ref_digit _ _).mono ?_
                rintro e w1 ⟨rfl, rfl⟩
                rw [HD.out]
                go_wp2_with fail
                refine (HTX.out _).mono ?_
                rintro e w1 ⟨rfl, rfl⟩
                go_wp2
                go_ret3
                exact tok3_of HE'.out (Below.refl _ _)
              · rw [if_neg (by rw [q1]; decide)] at HE
                have HE' : Hid (fsT s h0 = (0, 0, 4)) := HE
                rw [q2] at HTX
                clear HE hq HTO HTT HSG HSZ HOT q1 q2
                go_wp2_with fail
                refine (ref_letter _ _).mono ?_
                rintro e w1 ⟨rfl, rfl⟩
                rw [HL.out]
                go_wp2_with fail
                refine (ref_digit _ _).mono ?_
                rintro e w1 ⟨rfl, rfl⟩
                rw [HD.out]
                go_wp2_with fail
                refine (HTX.out _).mono ?_
                rintro e w1 ⟨rfl, rfl⟩
                go_wp2
                go_ret3
                exact tok3_of HE'.out (Below.refl _ _)
            · have b1 : ((s[0].toNat : Int) == 34) = false := nat_ne (n := 34) (by decide) hq
              rw [if_neg hq] at HE
              by_cases h59 : s[0] = 59
              · have b2 : ((s[0].toNat : Int) == 59) = true := by rw [h59]; decide
                rw [if_pos h59] at HE
                have HE' : Hid (fsT s h0 = (6, 1, 0)) := HE
                clear HE hq h59 HTO HTT HSG HSZ HOT HTX
                go_wp2_with fail
                refine (ref_letter _ _).mono ?_
                rintro e w1 ⟨rfl, rfl⟩
                rw [HL.out]
                go_wp2_with fail
                refine (ref_digit _ _).mono ?_
                rintro e w1 ⟨rfl, rfl⟩
                rw [HD.out]
                go_wp2
                go_ret3
                exact tok3_of HE'.out (Below.refl _ _)
              · have b2 : ((s[0].toNat : Int) == 59) = false := nat_ne (n := 59) (by decide) h59
                rw [if_neg h59, HSG.out, ← HSZ.out] at HE
                have HSN : Hid (∀ W, Calls Tryd.prog 38 #[.string s] W fun e w' => e = .returned (.string (bestN s 29)) ∧ Below W.heap.size W w') := fun W => ref_sign s W
                have hbz : (bestN s 29).size ≤ 2 := by rw [HSZ.out]; unfold sgnN; split; omega; split <;> omega
                clear hq h59 HTO HTT HSG HSZ HOT HTX
                generalize bestN s 29 = b at *
                by_cases hbs : b.size = 0
                · rw [if_pos hbs] at HE
                  have HE' : Hid (fsT s h0 = (0, 0, 2)) := HE
                  have hbl : (b.toList == []) = true := by
                    have := list_size b
                    rw [hbs] at this
                    simpa using this
                  clear HE hbs
                  go_wp2_with fail
                  refine (ref_letter _ _).mono ?_
                  rintro e w1 ⟨rfl, rfl⟩
                  rw [HL.out]
                  go_wp2_with fail
                  refine (ref_digit _ _).mono ?_
                  rintro e w1 ⟨rfl, rfl⟩
                  rw [HD.out]
                  go_wp2_with fail
                  refine (HSN.out _).mono ?_
                  rintro e w1 ⟨rfl, hb1⟩
                  go_wp2
                  go_ret3
                  exact tok3_of HE'.out hb1
                · rw [if_neg hbs] at HE
                  have HE' : Hid (fsT s h0 = (4, (b.size : Int), 0)) := HE
                  have hbl : (b.toList == []) = false := by
                    have := list_size b
                    cases hl : b.toList with
                    | nil => rw [hl] at this; exact absurd this.symm hbs
                    | cons x y => rfl
                  clear HE hbs
                  go_wp2_with fail
                  refine (ref_letter _ _).mono ?_
                  rintro e w1 ⟨rfl, rfl⟩
                  rw [HL.out]
                  go_wp2_with fail
                  refine (ref_digit _ _).mono ?_
                  rintro e w1 ⟨rfl, rfl⟩
                  rw [HD.out]
                  go_wp2_with fail
                  refine (HSN.out _).mono ?_
                  rintro e w1 ⟨rfl, hb1⟩
                  go_wp2
                  go_ret3
                  exact tok3_of HE'.out hb1
          · have hkp : 0 < k := by omega
            have HF : Hid (ltrI (s[0].toNat : Int) = true ∨ (ltrI (s[0].toNat : Int) = false ∧ dgtI (s[0].toNat : Int) = true)) := by
              obtain ⟨c, h1, h2⟩ := HK.out 0 hkp
              rw [HG.out 0 h0] at h1
              cases h1
              rw [HLD.out] at h2
              cases h3 : ltrI (s[0].toNat : Int)
              · rw [h3] at h2; exact .inr ⟨rfl, h2⟩
              · exact .inl rfl
            clear HOT HTX HTO HSG HSZ HTT
            have hsl := slice_to s k hk
            rcases HF.out with hf | ⟨hf, hg⟩
            · have HE := HNM.out k HR.out hf hk
              have HF0 : Hid (ltrI (s[0].toNat : Int) = true) := hf
              clear hf HF HG HIN HNM HR HK HZ HLD
              by_cases h16 : 16 < k
              · rw [if_pos h16] at HE
                have HE' : Hid (fsT s h0 = (0, 0, 7)) := HE
                clear HE
                go_wp2_with fail
                refine (ref_letter _ _).mono ?_
                rintro e w1 ⟨rfl, rfl⟩
                rw [HL.out]
                go_wp2_with fail
                refine (ref_digit _ _).mono ?_
                rintro e w1 ⟨rfl, rfl⟩
                rw [HD.out]
                go_wp2_with fail
                refine (ref_letter _ _).mono ?_
                rintro e w1 ⟨rfl, rfl⟩
                rw [HF0.out]
                go_wp2
                go_ret3
                exact tok3_of HE'.out (Below.refl _ _)
              · rw [if_neg h16] at HE
                have h16' : k ≤ 16 := by omega
                cases hw : wordB (s.extract 0 k)
                · rw [hw, if_neg (by decide)] at HE
                  have HE' : Hid (fsT s h0 = (1, (k : Int), 0)) := HE
                  have HW : Hid (wordB (s.extract 0 k) = false) := hw
                  clear HE hw
                  go_wp2_with fail
                  refine (ref_letter _ _).mono ?_
                  rintro e w1 ⟨rfl, rfl⟩
                  rw [HL.out]
                  go_wp2_with fail
                  refine (ref_digit _ _).mono ?_
                  rintro e w1 ⟨rfl, rfl⟩
                  rw [HD.out]
                  go_wp2_with fail
                  refine (ref_letter _ _).mono ?_
                  rintro e w1 ⟨rfl, rfl⟩
                  rw [HF0.out]
                  go_wp2_with fail
                  refine (ref_reserved _ _).mono ?_
                  rintro e w1 ⟨rfl, hb1⟩
                  rw [HW.out]
                  go_wp2
                  go_ret3
                  exact tok3_of HE'.out hb1
                · rw [hw, if_pos rfl] at HE
                  have HE' : Hid (fsT s h0 = (5, (k : Int), 0)) := HE
                  have HW : Hid (wordB (s.extract 0 k) = true) := hw
                  clear HE hw
                  go_wp2_with fail
                  refine (ref_letter _ _).mono ?_
                  rintro e w1 ⟨rfl, rfl⟩
                  rw [HL.out]
                  go_wp2_with fail
                  refine (ref_digit _ _).mono ?_
                  rintro e w1 ⟨rfl, rfl⟩
                  rw [HD.out]
                  go_wp2_with fail
                  refine (ref_letter _ _).mono ?_
                  rintro e w1 ⟨rfl, rfl⟩
                  rw [HF0.out]
                  go_wp2_with fail
                  refine (ref_reserved _ _).mono ?_
                  rintro e w1 ⟨rfl, hb1⟩
                  rw [HW.out]
                  go_wp2
                  go_ret3
                  exact tok3_of HE'.out hb1
            · have HE := HIN.out k HR.out hf hg hk
              have HF0 : Hid (ltrI (s[0].toNat : Int) = false) := hf
              have hez := ext_size s k hk
              have HRD : Hid (∀ W, Calls Tryd.prog 36 #[.string (s.extract 0 k)] W fun e w' => e = .returned (.tuple #[.int .i64 (rdN (s.extract 0 k)), .int .i64 (rdE (s.extract 0 k))]) ∧ Below W.heap.size W w') := fun W => ref_read (s.extract 0 k) (by omega) W
              clear hf hg hez HF HG HIN HNM HR HK HZ HLD
              rcases rdE_ways (s.extract 0 k) with hr | hr
              · rw [hr, if_pos rfl] at HE
                have HE' : Hid (fsT s h0 = (2, (k : Int), 0)) := HE
                rw [hr] at HRD
                clear HE hr
                go_wp2_with fail
                refine (ref_letter _ _).mono ?_
                rintro e w1 ⟨rfl, rfl⟩
                rw [HL.out]
                go_wp2_with fail
                refine (ref_digit _ _).mono ?_
                rintro e w1 ⟨rfl, rfl⟩
                rw [HD.out]
                go_wp2_with fail
                refine (ref_letter _ _).mono ?_
                rintro e w1 ⟨rfl, rfl⟩
                rw [HF0.out]
                go_wp2_with fail
                refine (HRD.out _).mono ?_
                rintro e w1 ⟨rfl, hb1⟩
                go_wp2
                go_ret3
                exact tok3_of HE'.out hb1
              · rw [hr, if_neg (by decide)] at HE
                have HE' : Hid (fsT s h0 = (0, 0, 3)) := HE
                rw [hr] at HRD
                clear HE hr
                go_wp2_with fail
                refine (ref_letter _ _).mono ?_
                rintro e w1 ⟨rfl, rfl⟩
                rw [HL.out]
                go_wp2_with fail
                refine (ref_digit _ _).mono ?_
                rintro e w1 ⟨rfl, rfl⟩
                rw [HD.out]
                go_wp2_with fail
                refine (ref_letter _ _).mono ?_
                rintro e w1 ⟨rfl, rfl⟩
                rw [HF0.out]
                go_wp2_with fail
                refine (HRD.out _).mono ?_
                rintro e w1 ⟨rfl, hb1⟩
                go_wp2
                go_ret3
                exact tok3_of HE'.out hb1
        · have HN : Hid (∀ j, j < k + 1 → ∃ c, l[j]? = some c ∧ lod c = true) := fun j hj => by
            by_cases e : j = k
            · subst e; exact ⟨s[j], HG.out j hlt, by unfold lod; rw [hL, hD]; rfl⟩
            · exact HK.out j (by omega)
          have HL : Hid (ltrI (s[k].toNat : Int) = false) := hL
          have HD : Hid (dgtI (s[k].toNat : Int) = true) := hD
          clear hL hD HNM HIN HOT HTX HTO HSG HSZ HTT HG
          go_wp2_with fail
          refine (ref_letter _ _).mono ?_
          rintro e w1 ⟨rfl, rfl⟩
          rw [HL.out]
          go_wp2_with fail
          refine (ref_digit _ _).mono ?_
          rintro e w1 ⟨rfl, rfl⟩
          rw [HD.out]
          go_wp2
          exact ⟨⟨k + 1, by omega, by go_num, trivial, HN.out⟩, by simp [intOf]; omega⟩
      · have HN : Hid (∀ j, j < k + 1 → ∃ c, l[j]? = some c ∧ lod c = true) := fun j hj => by
          by_cases e : j = k
          · subst e; exact ⟨s[j], HG.out j hlt, by unfold lod; rw [hL]; rfl⟩
          · exact HK.out j (by omega)
        have HL : Hid (ltrI (s[k].toNat : Int) = true) := hL
        clear hL HNM HIN HOT HTX HTO HSG HSZ HTT HG
        go_wp2_with fail
        refine (ref_letter _ _).mono ?_
        rintro e w1 ⟨rfl, rfl⟩
        rw [HL.out]
        go_wp2
        exact ⟨⟨k + 1, by omega, by go_num, trivial, HN.out⟩, by simp [intOf]; omega⟩
    · have hli : decide ((k : Int) < (s.size : Int)) = false := by simp; omega
      have HR : Hid (runN l = k) := runN_eq l k HK.out (.inl (by rw [HZ.out]; omega))
      have hkp : 0 < k := by omega
      have HF : Hid (ltrI (s[0].toNat : Int) = true ∨ (ltrI (s[0].toNat : Int) = false ∧ dgtI (s[0].toNat : Int) = true)) := by
        obtain ⟨c, h1, h2⟩ := HK.out 0 hkp
        rw [HG.out 0 h0] at h1
        cases h1
        rw [HLD.out] at h2
        cases h3 : ltrI (s[0].toNat : Int)
        · rw [h3] at h2; exact .inr ⟨rfl, h2⟩
        · exact .inl rfl
      clear HOT HTX HTO HSG HSZ HTT
      have hsl := slice_to s k hk
      rcases HF.out with hf | ⟨hf, hg⟩
      · have HE := HNM.out k HR.out hf hk
        have HF0 : Hid (ltrI (s[0].toNat : Int) = true) := hf
        clear hf HF HG HIN HNM HR HK HZ HLD
        by_cases h16 : 16 < k
        · rw [if_pos h16] at HE
          have HE' : Hid (fsT s h0 = (0, 0, 7)) := HE
          clear HE
          go_wp2_with fail
          refine (ref_letter _ _).mono ?_
          rintro e w1 ⟨rfl, rfl⟩
          rw [HF0.out]
          go_wp2
          go_ret3
          exact tok3_of HE'.out (Below.refl _ _)
        · rw [if_neg h16] at HE
          have h16' : k ≤ 16 := by omega
          cases hw : wordB (s.extract 0 k)
          · rw [hw, if_neg (by decide)] at HE
            have HE' : Hid (fsT s h0 = (1, (k : Int), 0)) := HE
            have HW : Hid (wordB (s.extract 0 k) = false) := hw
            clear HE hw
            go_wp2_with fail
            refine (ref_letter _ _).mono ?_
            rintro e w1 ⟨rfl, rfl⟩
            rw [HF0.out]
            go_wp2_with fail
            refine (ref_reserved _ _).mono ?_
            rintro e w1 ⟨rfl, hb1⟩
            rw [HW.out]
            go_wp2
            go_ret3
            exact tok3_of HE'.out hb1
          · rw [hw, if_pos rfl] at HE
            have HE' : Hid (fsT s h0 = (5, (k : Int), 0)) := HE
            have HW : Hid (wordB (s.extract 0 k) = true) := hw
            clear HE hw
            go_wp2_with fail
            refine (ref_letter _ _).mono ?_
            rintro e w1 ⟨rfl, rfl⟩
            rw [HF0.out]
            go_wp2_with fail
            refine (ref_reserved _ _).mono ?_
            rintro e w1 ⟨rfl, hb1⟩
            rw [HW.out]
            go_wp2
            go_ret3
            exact tok3_of HE'.out hb1
      · have HE := HIN.out k HR.out hf hg hk
        have HF0 : Hid (ltrI (s[0].toNat : Int) = false) := hf
        have hez := ext_size s k hk
        have HRD : Hid (∀ W, Calls Tryd.prog 36 #[.string (s.extract 0 k)] W fun e w' => e = .returned (.tuple #[.int .i64 (rdN (s.extract 0 k)), .int .i64 (rdE (s.extract 0 k))]) ∧ Below W.heap.size W w') := fun W => ref_read (s.extract 0 k) (by omega) W
        clear hf hg hez HF HG HIN HNM HR HK HZ HLD
        rcases rdE_ways (s.extract 0 k) with hr | hr
        · rw [hr, if_pos rfl] at HE
          have HE' : Hid (fsT s h0 = (2, (k : Int), 0)) := HE
          rw [hr] at HRD
          clear HE hr
          go_wp2_with fail
          refine (ref_letter _ _).mono ?_
          rintro e w1 ⟨rfl, rfl⟩
          rw [HF0.out]
          go_wp2_with fail
          refine (HRD.out _).mono ?_
          rintro e w1 ⟨rfl, hb1⟩
          go_wp2
          go_ret3
          exact tok3_of HE'.out hb1
        · rw [hr, if_neg (by decide)] at HE
          have HE' : Hid (fsT s h0 = (0, 0, 3)) := HE
          rw [hr] at HRD
          clear HE hr
          go_wp2_with fail
          refine (ref_letter _ _).mono ?_
          rintro e w1 ⟨rfl, rfl⟩
          rw [HF0.out]
          go_wp2_with fail
          refine (HRD.out _).mono ?_
          rintro e w1 ⟨rfl, hb1⟩
          go_wp2
          go_ret3
          exact tok3_of HE'.out hb1
end Go.Proofs.YtljdfaoplenloaaDoor
