/- The parser's steps over operands and signs between them. -/
import Derived.Test.YtpdndpajobfhmabGreatDoorPw2
namespace Go.Proofs.YtpdndpajobfhmabGreatDoor
open Go.ChangeShapes Go.WideShapes Go.ChangeAt Go.RowKit
set_option maxRecDepth 100000
set_option linter.unusedSimpArgs false
set_option linter.unusedVariables false

theorem peek0 {B pb : Nat} {toks : List Tk} {st : Ps} {W : World} {tv : Value} (hn : toks.length ≤ 2000) (hp : st.pos ≤ 10000) (h : Prs B pb toks st W tv) :
    Calls Tryz.prog 58 #[.pointer (some ⟨pb, 0, none⟩), .int .i64 0] W fun e w' =>
      ∃ ln cl : Int, e = .returned (.agg #[.int .i64 (pkK toks st.pos), .string (pkT toks st.pos), .int .i64 ln, .int .i64 cl]) ∧ Below W.heap.size W w' := own_peek B pb toks st W tv 0 h hn (by omega)
theorem starts_no {s : ByteArray} {l : List (List UInt8)} (h : startsB s l = false) {x : List UInt8} (hx : x ∈ l) : (s.toList == x) = false := by
  unfold startsB at h
  rw [List.any_eq_false] at h
  simpa using h x hx
set_option maxHeartbeats 2000000 in
theorem c_operand (toks : List Tk) (n : Nat) : COperand toks n := by
  intro B pb st w tv hs hna
  cases n with
  | zero => exact absurd rfl hna
  | succ n =>
    simp only [run] at hna ⊢
    cases hst : startsB (pkT toks st.pos) [[45], [33], [42], [38]] with
    | true => rw [hst, if_pos rfl] at hna; exact absurd rfl hna
    | false =>
      rw [hst, if_neg (by decide)] at hna
      rw [if_neg (by decide)]
      have b1 := starts_no hst (x := [45]) (by decide)
      have b2 := starts_no hst (x := [33]) (by decide)
      have b3 := starts_no hst (x := [42]) (by decide)
      have b4 := starts_no hst (x := [38]) (by decide)
      have hp := hs.pos
      have hn := hs.n
      have HPK : Hid (Calls Tryz.prog 58 #[.pointer (some ⟨pb, 0, none⟩), .int .i64 0] w fun e w' =>
        ∃ ln cl : Int, e = .returned (.agg #[.int .i64 (pkK toks st.pos), .string (pkT toks st.pos), .int .i64 ln, .int .i64 cl]) ∧ Below w.heap.size w w') := peek0 hn (by omega) hs.prs
      have HF : Hid (∀ W, Below w.heap.size w W → run toks n .part st ≠ .na → Calls Tryz.prog 142 #[.pointer (some ⟨pb, 0, none⟩)] W (PO B pb toks W tv ret2 (run toks n .part st))) := fun W hW h => c_part toks n B pb st W tv ⟨hs.prs.below hW, hn, hp, hs.tree⟩ h
      have HPR : Hid (Prs B pb toks st w tv) := hs.prs
      generalize pkT toks st.pos = T at *
      generalize pkK toks st.pos = K0 at *
      generalize run toks n .part st = R at *
      clear hst hs
      cases R with
      | na => exact absurd rfl hna
      | bad =>
        show Calls _ _ _ _ (PO B pb toks w tv ret1 .bad)
        clear hna
        go_enter Tryz.func144, Tryz.ntmps144
        go_wp2_with fail
        refine HPK.out.mono ?_
        rintro e w1 ⟨ln, cl, rfl, hb⟩
        have hfl := field_text K0 T ln cl
        have HM : Hid (Mv pb w tv w1 tv) := HPR.out.mvb hb
        have HF1 : Hid (Calls Tryz.prog 142 #[.pointer (some ⟨pb, 0, none⟩)] w1 (PO B pb toks w1 tv ret2 .bad)) := HF.out w1 hb (by intro e; cases e)
        clear hb HF
        go_wp2_with fail
        refine HF1.out.mono ?_
        rintro e w2 ⟨rfl, tv2, m⟩
        exact ⟨rfl, rfl, _, HM.out.trans m⟩
      | ok r st1 =>
        simp only [Out.bind] at hna ⊢
        split at hna
        · rename_i node last
          clear hna
          go_enter Tryz.func144, Tryz.ntmps144
          go_wp2_with fail
          refine HPK.out.mono ?_
          rintro e w1 ⟨ln, cl, rfl, hb⟩
          have hfl := field_text K0 T ln cl
          have HM : Hid (Mv pb w tv w1 tv) := HPR.out.mvb hb
          have HF1 : Hid (Calls Tryz.prog 142 #[.pointer (some ⟨pb, 0, none⟩)] w1 (PO B pb toks w1 tv ret2 (.ok [node, last] st1))) := HF.out w1 hb (by intro e; cases e)
          clear hb HF
          go_wp2_with fail
          refine HF1.out.mono ?_
          rintro e w2 ⟨rfl, tv2, q, m⟩
          have HQ : Hid (Prs B pb toks st1 w2 tv2 ∧ Mv pb w tv w2 tv2) := ⟨q, HM.out.trans m⟩
          clear q m
          simp only [ret2]
          go_wp2
          go_ret
          exact ⟨rfl, _, HQ.out⟩
        · exact absurd rfl hna
/-- Numbers in a row of their own. -/
theorem row_new (W : World) (B : Nat) (l : List Nat) (hB : B ≤ W.heap.size) (hl : l.length ≤ 1000000) (cs : Array Value) (hc : cs = (kcells l).toArray) : (W.alloc (.cells cs 3)).ownsRow B 3 1 (.slice (some ⟨W.heap.size, 0, none⟩) l.length l.length) l.length (kcells l) := by
  subst hc
  refine ⟨by simp [kcells], .inr ⟨W.heap.size, l.length, (kcells l).toArray, rfl, hB, heap_alloc_new W _, Nat.le_refl _, by unfold maxLen; omega, by simp [kcells], ?_⟩⟩
  rw [List.take_of_length_le (by simp [kcells])]
def posP (pb : Nat) (w : World) : Nat := match w.cell? ⟨pb, 1, none⟩ with
  | some (.int _ i) => i.toNat
  | _ => 0
theorem Prs.posP {B pb : Nat} {toks : List Tk} {st : Ps} {w : World} {tv : Value} (h : Prs B pb toks st w tv) : posP pb w = st.pos := by
  obtain ⟨tq, tc, -, c1, -⟩ := h.cells
  unfold Go.Proofs.YtpdndpajobfhmabGreatDoor.posP
  rw [c1]
  rfl
def OpsRel (B pb : Nat) (toks : List Tk) (w : World) (tv : Value) (n least : Nat) (R : Out) (l : Nat) (wr : World) : Prop := ∃ (m : Nat) (st1 : Ps) (tv1 : Value), m ≤ n ∧ Sit B pb toks st1 wr tv1 ∧ Mv pb w tv wr tv1 ∧ run toks m (.opsLoop least l) st1 = R
set_option maxHeartbeats 4000000 in
theorem c_ops (toks : List Tk) (n : Nat) : COps toks n := by
  induction n using Nat.strongRecOn with
  | ind n IH =>
    intro B pb st w tv least hle hs hna
    cases n with
    | zero => exact absurd rfl hna
    | succ n =>
      have HIH : Hid (∀ m, m ≤ n → COps toks m) := fun m hm => IH m (by omega)
      clear IH
      simp only [run] at hna ⊢
      have hn := hs.n
      have HF := c_operand toks n B pb st w tv hs
      cases hr : run toks n .operand st with
      | na => rw [hr] at hna; exact absurd rfl hna
      | bad =>
        rw [hr] at HF
        have HF' : Hid (Calls Tryz.prog 144 #[.pointer (some ⟨pb, 0, none⟩)] w (PO B pb toks w tv ret1 .bad)) := HF (by intro e; cases e)
        show Calls _ _ _ _ (PO B pb toks w tv ret1 .bad)
        clear hr hna HF hs
        go_enter Tryz.func158, Tryz.ntmps158
        go_wp2_with fail
        refine HF'.out.mono ?_
        rintro e w1 ⟨rfl, m⟩
        exact ⟨rfl, rfl, m⟩
      | ok r st0 =>
        have HSA : Hid (∀ w' tv', Prs B pb toks st0 w' tv' → Sit B pb toks st0 w' tv') := fun w' tv' hp => hs.after hr rfl hp
        rw [hr] at HF hna
        simp only [Out.bind] at hna ⊢
        split at hna
        · rename_i left
          have HF' : Hid (Calls Tryz.prog 144 #[.pointer (some ⟨pb, 0, none⟩)] w (PO B pb toks w tv ret1 (.ok [left] st0))) := HF (by intro e; cases e)
          have HR0 : Hid (run toks n (.opsLoop least left) st0 = run toks n (.opsLoop least left) st0) := rfl
          generalize hR : run toks n (.opsLoop least left) st0 = R at *
          have HR : Hid (run toks n (.opsLoop least left) st0 = R) := hR
          have HNA : Hid (R ≠ .na) := hna
          clear hR HR0 hna HF hs hr
          go_enter Tryz.func158, Tryz.ntmps158
          go_wp2_with fail
          refine HF'.out.mono ?_
          rintro e w1 ⟨rfl, tv1, q1, m1⟩
          have HST : Hid (OpsRel B pb toks w tv n least R left w1) := ⟨n, st0, tv1, Nat.le_refl _, HSA.out _ _ q1, m1, HR.out⟩
          clear q1 m1
          simp only [ret1]
          go_wp2
          go_loopw [5] (fun v wr => ∃ l : Nat, v = .int .i64 (l : Int) ∧ Hid (OpsRel B pb toks w tv n least R l wr)) (fun _ wr => toks.length + 1 - posP pb wr)
          case atStart => exact ⟨left, rfl, HST.out⟩
          case round =>
            clear HST
            obtain ⟨l, rfl, HK⟩ := hrel
            obtain ⟨m, st1, tv1, hm, hsit, hmv, hrun⟩ := HK.out
            have HM : Hid (Mv pb w tv wr tv1) := hmv
            have HS1 : Hid (Sit B pb toks st1 wr tv1) := hsit
            have hp1 := hsit.pos
            have htr := hsit.tree
            have HPP : Hid (posP pb wr = st1.pos) := hsit.prs.posP
            have HPK : Hid (Calls Tryz.prog 58 #[.pointer (some ⟨pb, 0, none⟩), .int .i64 0] wr fun e w' =>
              ∃ ln cl : Int, e = .returned (.agg #[.int .i64 (pkK toks st1.pos), .string (pkT toks st1.pos), .int .i64 ln, .int .i64 cl]) ∧ Below wr.heap.size wr w') := peek0 hn (by omega) hsit.prs
            cases m with
            | zero => exact absurd hrun.symm HNA.out
            | succ m =>
              simp only [run] at hrun
              have ht5 := tight_le (pkT toks st1.pos)
              by_cases ht : tightN (pkT toks st1.pos) < least
              · rw [if_pos ht] at hrun
                have HRR : Hid (R = .ok [l] st1) := hrun.symm
                clear hrun HK hsit hmv
                generalize pkT toks st1.pos = T at *
                generalize pkK toks st1.pos = K0 at *
                go_wp2_with fail
                refine HPK.out.mono ?_
                rintro e w2 ⟨ln, cl, rfl, hb⟩
                have hfl := field_text K0 T ln cl
                have HQ : Hid (Prs B pb toks st1 w2 tv1 ∧ Mv pb w tv w2 tv1) := ⟨HS1.out.prs.below hb, HM.out.trans (HS1.out.prs.mvb hb)⟩
                clear hb
                go_wp2_with fail
                refine (own_tight T _).mono ?_
                rintro e w3 ⟨rfl, rfl⟩
                go_wp2
                go_ret
                rw [HRR.out]
                exact ⟨rfl, _, HQ.out⟩
              · rw [if_neg ht] at hrun
                by_cases hz : tightN (pkT toks st1.pos) = 0
                · rw [if_pos hz] at hrun; exact absurd hrun.symm HNA.out
                · rw [if_neg hz] at hrun
                  have hlt := tight_lt hz
                  have htl : least ≤ tightN (pkT toks st1.pos) := by omega
                  have hnx := hsit.prs
                  have HIM : Hid (∀ W tvx, Sit B pb toks st1.next W tvx → run toks m (.ops (tightN (pkT toks st1.pos) + 1)) st1.next ≠ .na → Calls Tryz.prog 158 #[.pointer (some ⟨pb, 0, none⟩), .int .i64 ((tightN (pkT toks st1.pos) : Int) + 1)] W (PO B pb toks W tvx ret1 (run toks m (.ops (tightN (pkT toks st1.pos) + 1)) st1.next))) := fun W tvx hsx hnx => HIH.out m (by omega) B pb st1.next W tvx (tightN (pkT toks st1.pos) + 1) (by omega) hsx hnx
                  have HSN : Hid (∀ W tvx, Prs B pb toks st1.next W tvx → Sit B pb toks st1.next W tvx) := fun W tvx hx => ⟨hx, hn, by simp only [next_pos]; omega, by simp only [next_pos, next_tree]; omega⟩
                  cases hq : run toks m (.ops (tightN (pkT toks st1.pos) + 1)) st1.next with
                  | na => rw [hq] at hrun; exact absurd hrun.symm HNA.out
                  | bad =>
                    rw [hq] at hrun HIM
                    have HRR : Hid (R = .bad) := hrun.symm
                    clear hrun HK hsit hmv hq hnx
                    generalize pkT toks st1.pos = T at *
                    generalize pkK toks st1.pos = K0 at *
                    go_wp2_with fail
                    refine HPK.out.mono ?_
                    rintro e w2 ⟨ln, cl, rfl, hb⟩
                    have hfl := field_text K0 T ln cl
                    have h2 := HS1.out.prs.below hb
                    obtain ⟨tq, tc, -, c1, -, fz, -⟩ := h2.cells
                    have f1 := fz 1
                    have HQ : Hid (Prs B pb toks st1.next (w2.setCell ⟨pb, 1, none⟩ (.int .i64 ((st1.pos : Int) + 1))) tv1 ∧ Mv pb w tv (w2.setCell ⟨pb, 1, none⟩ (.int .i64 ((st1.pos : Int) + 1))) tv1) := ⟨(h2.setPos _).1, (HM.out.trans (HS1.out.prs.mvb hb)).trans (h2.setPos _).2⟩
                    clear hb h2 fz
                    go_wp2_with fail
                    refine (own_tight T _).mono ?_
                    rintro e w3 ⟨rfl, rfl⟩
                    go_wp2_with fail
                    refine (HIM.out _ _ (HSN.out _ _ HQ.out.1) (by intro e; cases e)).mono ?_
                    rintro e w4 ⟨rfl, tv4, m4⟩
                    refine ⟨rfl, ?_⟩
                    rw [HRR.out]
                    exact ⟨rfl, _, HQ.out.2.trans m4⟩
                  | ok r2 st2 =>
                    have HS2 : Hid (∀ W tvx, Prs B pb toks st2 W tvx → Sit B pb toks st2 W tvx) := fun W tvx hx => (HSN.out _ _ ((hsit.prs.setPos _).1)).after hq rfl hx
                    obtain ⟨j1, j2, j3⟩ := run_inv toks _ _ _ _ _ hq (by simp only [next_pos]; omega)
                    simp only [next_pos, next_tree, cst] at j1 j2 j3
                    rw [hq] at hrun HIM
                    simp only [Out.bind] at hrun
                    split at hrun
                    · rename_i right
                      have HLA : Hid (∀ W tvx ko kl kc, Prs B pb toks st2 W tvx → W.ownsRow B 3 1 (.slice ko kl kc) 2 (kcells [l, right]) → Calls Tryz.prog 31 #[.pointer (some ⟨pb, 0, none⟩), Nd.val ⟨27, pkT toks st1.pos, ⟨#[]⟩, 0, [l, right]⟩ (.slice ko kl kc)] W fun e w' => e = .returned (.int .i64 st2.tree.length) ∧ ∃ tv', Prs B pb toks (st2.lay ⟨27, pkT toks st1.pos, ⟨#[]⟩, 0, [l, right]⟩) w' tv' ∧ MvX pb (Value.slice ko kl kc).ownBlock W tvx w' tv') := fun W tvx ko kl kc h hrow => own_lay B pb toks st2 W tvx ⟨27, pkT toks st1.pos, ⟨#[]⟩, 0, [l, right]⟩ ko kl kc h hrow (by omega)
                      have HNX : Hid (∀ W tvx, Prs B pb toks (st2.lay ⟨27, pkT toks st1.pos, ⟨#[]⟩, 0, [l, right]⟩) W tvx → Mv pb w tv W tvx → OpsRel B pb toks w tv n least R st2.tree.length W ∧ posP pb W = st2.pos) := fun W tvx hx hmx => ⟨⟨m, _, tvx, by omega, ⟨hx, hn, by simp only [lay_pos]; omega, by simp only [lay_pos, lay_len]; omega⟩, hmx, hrun⟩, hx.posP⟩
                      unfold Nd.val at HLA
                      clear hrun HK hsit hmv hq hnx
                      generalize pkT toks st1.pos = T at *
                      generalize pkK toks st1.pos = K0 at *
                      generalize st2.lay ⟨27, T, ⟨#[]⟩, 0, [l, right]⟩ = st3 at *
                      go_wp2_with fail
                      refine HPK.out.mono ?_
                      rintro e w2 ⟨ln, cl, rfl, hb⟩
                      have hfl := field_text K0 T ln cl
                      have h2 := HS1.out.prs.below hb
                      obtain ⟨tq, tc, -, c1, -, fz, -⟩ := h2.cells
                      have f1 := fz 1
                      have HQ : Hid (Prs B pb toks st1.next (w2.setCell ⟨pb, 1, none⟩ (.int .i64 ((st1.pos : Int) + 1))) tv1 ∧ Mv pb w tv (w2.setCell ⟨pb, 1, none⟩ (.int .i64 ((st1.pos : Int) + 1))) tv1) := ⟨(h2.setPos _).1, (HM.out.trans (HS1.out.prs.mvb hb)).trans (h2.setPos _).2⟩
                      clear hb h2 fz
                      go_wp2_with fail
                      refine (own_tight T _).mono ?_
                      rintro e w3 ⟨rfl, rfl⟩
                      go_wp2_with fail
                      refine (HIM.out _ _ (HSN.out _ _ HQ.out.1) (by intro e; cases e)).mono ?_
                      rintro e w4 ⟨rfl, tv4, q4, m4⟩
                      have HQ4 : Hid (Prs B pb toks st2 w4 tv4 ∧ Mv pb w tv w4 tv4) := ⟨q4, HQ.out.2.trans m4⟩
                      have hbl : Below w4.heap.size w4 (w4.alloc (.cells #[.int .i64 (l : Int), .int .i64 (right : Int)] 3)) := (Below.refl _ _).alloc (Nat.le_refl _) _
                      have HQ5 : Hid (Prs B pb toks st2 (w4.alloc (.cells #[.int .i64 (l : Int), .int .i64 (right : Int)] 3)) tv4 ∧ Mv pb w tv (w4.alloc (.cells #[.int .i64 (l : Int), .int .i64 (right : Int)] 3)) tv4) := ⟨q4.below hbl, HQ4.out.2.trans (HQ4.out.1.mvb hbl)⟩
                      have HROW : Hid ((w4.alloc (.cells #[.int .i64 (l : Int), .int .i64 (right : Int)] 3)).ownsRow B 3 1 (.slice (some ⟨w4.heap.size, 0, none⟩) 2 2) 2 (kcells [l, right])) := row_new w4 B [l, right] (Nat.le_trans q4.low (Nat.le_of_lt q4.lt)) (by simp) _ rfl
                      clear q4 m4 hbl
                      simp only [ret1]
                      go_wp2_with fail
                      refine (HLA.out _ _ _ _ _ HQ5.out.1 HROW.out).mono ?_
                      rintro e w6 ⟨rfl, tv6, q6, m6⟩
                      obtain ⟨hrel6, hpos6⟩ := HNX.out w6 tv6 q6 (HQ5.out.2.then m6 (fun q hq => by cases hq; exact HQ4.out.2.size))
                      have HREL : Hid (OpsRel B pb toks w tv n least R st2.tree.length w6) := hrel6
                      have HPOS : Hid (posP pb w6 = st2.pos) := hpos6
                      clear q6 m6 hrel6 hpos6
                      go_wp2
                      exact ⟨⟨_, rfl, HREL.out⟩, by rw [HPOS.out, HPP.out]; omega⟩
                    · exact absurd hrun.symm HNA.out
        · exact absurd rfl hna
set_option maxHeartbeats 1000000 in
theorem c_expr (toks : List Tk) (n : Nat) : CExpr toks n := by
  intro B pb st w tv hs hna
  cases n with
  | zero => exact absurd rfl hna
  | succ n =>
    simp only [run] at hna ⊢
    have HF : Hid (Calls Tryz.prog 158 #[.pointer (some ⟨pb, 0, none⟩), .int .i64 1] w (PO B pb toks w tv ret1 (run toks n (.ops 1) st))) := c_ops toks n B pb st w tv 1 (by decide) hs hna
    generalize run toks n (.ops 1) st = R at *
    clear hs
    cases R with
    | na => exact absurd rfl hna
    | bad =>
      clear hna
      go_enter Tryz.func141, Tryz.ntmps141
      go_wp2_with fail
      refine HF.out.mono ?_
      rintro e w1 ⟨rfl, m⟩
      exact ⟨rfl, rfl, m⟩
    | ok r st1 =>
      clear hna
      go_enter Tryz.func141, Tryz.ntmps141
      go_wp2_with fail
      refine HF.out.mono ?_
      rintro e w1 ⟨rfl, tv1, q, m⟩
      have HQ : Hid (Prs B pb toks st1 w1 tv1 ∧ Mv pb w tv w1 tv1) := ⟨q, m⟩
      clear q m
      go_wp2
      go_ret
      exact ⟨rfl, _, HQ.out⟩
end Go.Proofs.YtpdndpajobfhmabGreatDoor
