/- The parser's steps over statements. -/
import Derived.Test.YtpdndpajobfhmabGreatDoorPw3
namespace Go.Proofs.YtpdndpajobfhmabGreatDoor
open Go.ChangeShapes Go.WideShapes Go.ChangeAt Go.RowKit
set_option maxRecDepth 100000
set_option linter.unusedSimpArgs false
set_option linter.unusedVariables false

theorem field_kind (k : Int) (t : ByteArray) (l c : Int) (w : World) : (Instr.field 64 (.agg #[.int .i64 k, .string t, .int .i64 l, .int .i64 c]) 0).run Tryz.prog w = .ok (.int .i64 k) w := by kernel_rfl
def CPlain (toks : List Tk) (n : Nat) : Prop := ∀ B pb st w tv, Sit B pb toks st w tv → run toks n .plain st ≠ .na → Calls Tryz.prog 126 #[.pointer (some ⟨pb, 0, none⟩)] w (PO B pb toks w tv ret1 (run toks n .plain st))
def CStmt (toks : List Tk) (n : Nat) : Prop := ∀ B pb st w tv, Sit B pb toks st w tv → run toks n .stmt st ≠ .na → Calls Tryz.prog 106 #[.pointer (some ⟨pb, 0, none⟩)] w (PO B pb toks w tv ret1 (run toks n .stmt st))
set_option maxHeartbeats 4000000 in
theorem c_plain (toks : List Tk) (n : Nat) : CPlain toks n := by
  intro B pb st w tv hs hna
  cases n with
  | zero => exact absurd rfl hna
  | succ n =>
    simp only [run] at hna ⊢
    by_cases hc : pkK toks st.pos = 1 ∧ ((pkT toks (st.pos + 1)).toList == [58, 61]) = true
    · rw [if_pos hc] at hna
      rw [if_pos hc]
      obtain ⟨hk, hT⟩ := hc
      have hp := hs.pos
      have hn := hs.n
      have htr := hs.tree
      have hlt := pkK_lt hk
      have hi2 : isP toks st.next ⟨#[58, 61]⟩ = true := by unfold isP; simp only [next_pos]; rw [show (⟨#[58, 61]⟩ : ByteArray).toList = [58, 61] by rw [ByteArray.toList_eq]]; exact hT
      have hl2 : st.pos + 1 < toks.length := isP_lt hi2 (by decide)
      have HP0 : Hid (∀ W, Prs B pb toks st W tv → Calls Tryz.prog 58 #[.pointer (some ⟨pb, 0, none⟩), .int .i64 0] W fun e w' =>
        ∃ ln cl : Int, e = .returned (.agg #[.int .i64 1, .string (pkT toks st.pos), .int .i64 ln, .int .i64 cl]) ∧ Below W.heap.size W w') := fun W h => by have := peek0 (W := W) hn (by omega) h; rwa [hk] at this
      have HP1 : Hid (∀ W, Prs B pb toks st W tv → Calls Tryz.prog 58 #[.pointer (some ⟨pb, 0, none⟩), .int .i64 1] W fun e w' =>
        ∃ ln cl : Int, e = .returned (.agg #[.int .i64 (pkK toks (st.pos + 1)), .string (pkT toks (st.pos + 1)), .int .i64 ln, .int .i64 cl]) ∧ Below W.heap.size W w') := fun W h => own_peek B pb toks st W tv 1 h hn (by omega)
      have HNM : Hid (∀ W, Prs B pb toks st W tv → Calls Tryz.prog 60 #[.pointer (some ⟨pb, 0, none⟩)] W (PP B pb toks W tv Value.string (some (pkT toks st.pos, st.next)))) := fun W h => by
        have := own_pname B pb toks st W tv h hn (by omega)
        unfold nameP at this
        rwa [if_pos hk] at this
      have HMU : Hid (∀ W tvx, Prs B pb toks st.next W tvx → Calls Tryz.prog 30 #[.pointer (some ⟨pb, 0, none⟩), .string ⟨#[58, 61]⟩] W (PP B pb toks W tvx unitV (some ((), st.next.next)))) := fun W tvx h => by
        have := own_must B pb toks st.next W tvx ⟨#[58, 61]⟩ h hn (by simp only [next_pos]; omega)
        unfold mustP at this
        rwa [hi2, if_pos rfl] at this
      have HSN : Hid (∀ W tvx, Prs B pb toks st.next.next W tvx → Sit B pb toks st.next.next W tvx) := fun W tvx h => ⟨h, hn, by simp only [next_pos]; omega, by simp only [next_pos, next_tree]; omega⟩
      have HEX : Hid (∀ W tvx, Prs B pb toks st.next.next W tvx → run toks n .expr st.next.next ≠ .na → Calls Tryz.prog 141 #[.pointer (some ⟨pb, 0, none⟩)] W (PO B pb toks W tvx ret1 (run toks n .expr st.next.next))) := fun W tvx h hx => c_expr toks n B pb _ W tvx (HSN.out W tvx h) hx
      have HPR : Hid (Prs B pb toks st w tv) := hs.prs
      have bT : ((pkT toks (st.pos + 1)).toList == [58, 61]) = true := hT
      cases hr : run toks n .expr st.next.next with
      | na => rw [hr] at hna; exact absurd rfl hna
      | bad =>
        rw [hr] at HEX
        show Calls _ _ _ _ (PO B pb toks w tv ret1 .bad)
        clear hr hna hs hk hT hi2
        generalize pkT toks st.pos = T at *
        generalize pkT toks (st.pos + 1) = T1 at *
        generalize pkK toks (st.pos + 1) = K1 at *
        generalize st.next.next = st2 at *
        generalize st.next = st1 at *
        go_enter Tryz.func126, Tryz.ntmps126
        go_wp2_with fail
        refine (HP0.out _ HPR.out).mono ?_
        rintro e w1 ⟨ln, cl, rfl, hb1⟩
        have hf0 := field_kind 1 T ln cl
        have HQ1 : Hid (Prs B pb toks st w1 tv ∧ Mv pb w tv w1 tv) := ⟨HPR.out.below hb1, HPR.out.mvb hb1⟩
        clear hb1
        go_wp2_with fail
        refine (HP1.out _ HQ1.out.1).mono ?_
        rintro e w2 ⟨ln2, cl2, rfl, hb2⟩
        have hf1 := field_text K1 T1 ln2 cl2
        have HQ2 : Hid (Prs B pb toks st w2 tv ∧ Mv pb w tv w2 tv) := ⟨HQ1.out.1.below hb2, HQ1.out.2.trans (HQ1.out.1.mvb hb2)⟩
        clear hb2
        go_wp2_with fail
        refine (HNM.out _ HQ2.out.1).mono ?_
        rintro e w3 ⟨rfl, tv3, q3, m3⟩
        have HQ3 : Hid (Prs B pb toks st1 w3 tv3 ∧ Mv pb w tv w3 tv3) := ⟨q3, HQ2.out.2.trans m3⟩
        clear q3 m3
        go_wp2_with fail
        refine (HMU.out _ _ HQ3.out.1).mono ?_
        rintro e w4 ⟨rfl, tv4, q4, m4⟩
        have HQ4 : Hid (Prs B pb toks st2 w4 tv4 ∧ Mv pb w tv w4 tv4) := ⟨q4, HQ3.out.2.trans m4⟩
        clear q4 m4
        go_wp2_with fail
        refine (HEX.out _ _ HQ4.out.1 (by intro e; cases e)).mono ?_
        rintro e w5 ⟨rfl, tv5, m5⟩
        exact ⟨rfl, rfl, _, HQ4.out.2.trans m5⟩
      | ok r st5 =>
        obtain ⟨j1, j2, j3⟩ := run_inv toks _ _ _ _ _ hr (by simp only [next_pos]; omega)
        simp only [next_pos, next_tree, cst] at j1 j2 j3
        rw [hr] at HEX hna
        simp only [Out.bind] at hna ⊢
        split at hna
        · rename_i k
          have HLA : Hid (∀ W tvx ko kl kc, Prs B pb toks st5 W tvx → W.ownsRow B 3 1 (.slice ko kl kc) 1 (kcells [k]) → Calls Tryz.prog 31 #[.pointer (some ⟨pb, 0, none⟩), Nd.val ⟨7, pkT toks st.pos, ⟨#[]⟩, 0, [k]⟩ (.slice ko kl kc)] W fun e w' => e = .returned (.int .i64 st5.tree.length) ∧ ∃ tv', Prs B pb toks (st5.lay ⟨7, pkT toks st.pos, ⟨#[]⟩, 0, [k]⟩) w' tv' ∧ MvX pb (Value.slice ko kl kc).ownBlock W tvx w' tv') := fun W tvx ko kl kc h hrow => own_lay B pb toks st5 W tvx ⟨7, pkT toks st.pos, ⟨#[]⟩, 0, [k]⟩ ko kl kc h hrow (by omega)
          unfold Nd.val at HLA
          clear hr hna hs hk hT hi2
          generalize pkT toks st.pos = T at *
          generalize pkT toks (st.pos + 1) = T1 at *
          generalize pkK toks (st.pos + 1) = K1 at *
          generalize st.next.next = st2 at *
          generalize st.next = st1 at *
          generalize st5.lay ⟨7, T, ⟨#[]⟩, 0, [k]⟩ = st6 at *
          go_enter Tryz.func126, Tryz.ntmps126
          go_wp2_with fail
          refine (HP0.out _ HPR.out).mono ?_
          rintro e w1 ⟨ln, cl, rfl, hb1⟩
          have hf0 := field_kind 1 T ln cl
          have HQ1 : Hid (Prs B pb toks st w1 tv ∧ Mv pb w tv w1 tv) := ⟨HPR.out.below hb1, HPR.out.mvb hb1⟩
          clear hb1
          go_wp2_with fail
          refine (HP1.out _ HQ1.out.1).mono ?_
          rintro e w2 ⟨ln2, cl2, rfl, hb2⟩
          have hf1 := field_text K1 T1 ln2 cl2
          have HQ2 : Hid (Prs B pb toks st w2 tv ∧ Mv pb w tv w2 tv) := ⟨HQ1.out.1.below hb2, HQ1.out.2.trans (HQ1.out.1.mvb hb2)⟩
          clear hb2
          go_wp2_with fail
          refine (HNM.out _ HQ2.out.1).mono ?_
          rintro e w3 ⟨rfl, tv3, q3, m3⟩
          have HQ3 : Hid (Prs B pb toks st1 w3 tv3 ∧ Mv pb w tv w3 tv3) := ⟨q3, HQ2.out.2.trans m3⟩
          clear q3 m3
          go_wp2_with fail
          refine (HMU.out _ _ HQ3.out.1).mono ?_
          rintro e w4 ⟨rfl, tv4, q4, m4⟩
          have HQ4 : Hid (Prs B pb toks st2 w4 tv4 ∧ Mv pb w tv w4 tv4) := ⟨q4, HQ3.out.2.trans m4⟩
          clear q4 m4
          go_wp2_with fail
          refine (HEX.out _ _ HQ4.out.1 (by intro e; cases e)).mono ?_
          rintro e w5 ⟨rfl, tv5, q5, m5⟩
          have HQ5 : Hid (Prs B pb toks st5 w5 tv5 ∧ Mv pb w tv w5 tv5) := ⟨q5, HQ4.out.2.trans m5⟩
          have hbl : Below w5.heap.size w5 (w5.alloc (.cells #[.int .i64 (k : Int)] 3)) := (Below.refl _ _).alloc (Nat.le_refl _) _
          have HQ6 : Hid (Prs B pb toks st5 (w5.alloc (.cells #[.int .i64 (k : Int)] 3)) tv5 ∧ Mv pb w tv (w5.alloc (.cells #[.int .i64 (k : Int)] 3)) tv5) := ⟨q5.below hbl, HQ5.out.2.trans (q5.mvb hbl)⟩
          have HROW : Hid ((w5.alloc (.cells #[.int .i64 (k : Int)] 3)).ownsRow B 3 1 (.slice (some ⟨w5.heap.size, 0, none⟩) 1 1) 1 (kcells [k])) := row_new w5 B [k] (Nat.le_trans q5.low (Nat.le_of_lt q5.lt)) (by simp) _ rfl
          clear q5 m5 hbl
          simp only [ret1]
          go_wp2_with fail
          refine (HLA.out _ _ _ _ _ HQ6.out.1 HROW.out).mono ?_
          rintro e w6 ⟨rfl, tv6, q6, m6⟩
          have HQ7 : Hid (Prs B pb toks st6 w6 tv6 ∧ Mv pb w tv w6 tv6) := ⟨q6, HQ6.out.2.then m6 (fun q hq => by cases hq; exact HQ5.out.2.size)⟩
          clear q6 m6
          go_wp2
          go_ret
          exact ⟨rfl, _, HQ7.out⟩
        · exact absurd rfl hna
    · rw [if_neg hc] at hna; exact absurd rfl hna
def stmtWords : List (List UInt8) := [[123], [105, 102], [102, 111, 114], [114, 101, 116, 117, 114, 110], [118, 97, 114], [98, 114, 101, 97, 107], [99, 111, 110, 116, 105, 110, 117, 101], [100, 101, 102, 101, 114]]
set_option maxHeartbeats 4000000 in
theorem c_stmt (toks : List Tk) (n : Nat) : CStmt toks n := by
  intro B pb st w tv hs hna
  cases n with
  | zero => exact absurd rfl hna
  | succ n =>
    simp only [run] at hna ⊢
    change (if startsB (pkT toks st.pos) stmtWords = true then Out.na else run toks n .plain st) ≠ .na at hna
    change Calls _ _ _ _ (PO B pb toks w tv ret1 (if startsB (pkT toks st.pos) stmtWords = true then Out.na else run toks n .plain st))
    cases hst : startsB (pkT toks st.pos) stmtWords with
    | true => rw [hst, if_pos rfl] at hna; exact absurd rfl hna
    | false =>
      rw [hst, if_neg (by decide)] at hna
      rw [if_neg (by decide)]
      have b1 := starts_no hst (x := [123]) (by decide)
      have b2 := starts_no hst (x := [105, 102]) (by decide)
      have b3 := starts_no hst (x := [102, 111, 114]) (by decide)
      have b4 := starts_no hst (x := [114, 101, 116, 117, 114, 110]) (by decide)
      have b5 := starts_no hst (x := [118, 97, 114]) (by decide)
      have b6 := starts_no hst (x := [98, 114, 101, 97, 107]) (by decide)
      have b7 := starts_no hst (x := [99, 111, 110, 116, 105, 110, 117, 101]) (by decide)
      have b8 := starts_no hst (x := [100, 101, 102, 101, 114]) (by decide)
      have hp := hs.pos
      have hn := hs.n
      have HPK : Hid (Calls Tryz.prog 58 #[.pointer (some ⟨pb, 0, none⟩), .int .i64 0] w fun e w' =>
        ∃ ln cl : Int, e = .returned (.agg #[.int .i64 (pkK toks st.pos), .string (pkT toks st.pos), .int .i64 ln, .int .i64 cl]) ∧ Below w.heap.size w w') := peek0 hn (by omega) hs.prs
      have HF : Hid (∀ W, Below w.heap.size w W → run toks n .plain st ≠ .na → Calls Tryz.prog 126 #[.pointer (some ⟨pb, 0, none⟩)] W (PO B pb toks W tv ret1 (run toks n .plain st))) := fun W hW h => c_plain toks n B pb st W tv ⟨hs.prs.below hW, hn, hp, hs.tree⟩ h
      have HPR : Hid (Prs B pb toks st w tv) := hs.prs
      generalize pkT toks st.pos = T at *
      generalize pkK toks st.pos = K0 at *
      generalize run toks n .plain st = R at *
      clear hst hs
      cases R with
      | na => exact absurd rfl hna
      | bad =>
        clear hna
        go_enter Tryz.func106, Tryz.ntmps106
        go_wp2_with fail
        refine HPK.out.mono ?_
        rintro e w1 ⟨ln, cl, rfl, hb⟩
        have hfl := field_text K0 T ln cl
        have HM : Hid (Mv pb w tv w1 tv) := HPR.out.mvb hb
        have HF1 : Hid (Calls Tryz.prog 126 #[.pointer (some ⟨pb, 0, none⟩)] w1 (PO B pb toks w1 tv ret1 .bad)) := HF.out w1 hb (by intro e; cases e)
        clear hb HF
        go_wp2_with fail
        refine HF1.out.mono ?_
        rintro e w2 ⟨rfl, tv2, m⟩
        exact ⟨rfl, rfl, _, HM.out.trans m⟩
      | ok r st1 =>
        clear hna
        go_enter Tryz.func106, Tryz.ntmps106
        go_wp2_with fail
        refine HPK.out.mono ?_
        rintro e w1 ⟨ln, cl, rfl, hb⟩
        have hfl := field_text K0 T ln cl
        have HM : Hid (Mv pb w tv w1 tv) := HPR.out.mvb hb
        have HF1 : Hid (Calls Tryz.prog 126 #[.pointer (some ⟨pb, 0, none⟩)] w1 (PO B pb toks w1 tv ret1 (.ok r st1))) := HF.out w1 hb (by intro e; cases e)
        clear hb HF
        go_wp2_with fail
        refine HF1.out.mono ?_
        rintro e w2 ⟨rfl, tv2, q, m⟩
        have HQ : Hid (Prs B pb toks st1 w2 tv2 ∧ Mv pb w tv w2 tv2) := ⟨q, HM.out.trans m⟩
        clear q m
        go_wp2
        go_ret
        exact ⟨rfl, _, HQ.out⟩
end Go.Proofs.YtpdndpajobfhmabGreatDoor
