/- The parser's steps over parts, operands and signs between them. -/
import Derived.Test.YtpdndpajobfhmabGreatDoorPw1
namespace Go.Proofs.YtpdndpajobfhmabGreatDoor
open Go.ChangeShapes Go.WideShapes Go.ChangeAt Go.RowKit
set_option maxRecDepth 100000
set_option linter.unusedSimpArgs false
set_option linter.unusedVariables false

theorem Prs.drewN {B pb : Nat} {toks : List Tk} {st : Ps} {w : World} {tv : Value} (h : Prs B pb toks st w tv) (m : Nat) : Prs B pb toks st (w.drewN m) tv := h.below (below_drewN1 w m)
theorem take_no {B pb : Nat} {toks : List Tk} {st : Ps} {W : World} {tv : Value} {s : ByteArray} (hs : isP toks st s = false) (hn : toks.length ≤ 2000) (hp : st.pos ≤ 10000) (h : Prs B pb toks st W tv) :
    Calls Tryz.prog 61 #[.pointer (some ⟨pb, 0, none⟩), .string s] W fun e w' => e = .returned (.bool false) ∧ Prs B pb toks st w' tv ∧ Mv pb W tv w' tv := by
  have := own_take B pb toks st W tv s h hn hp
  unfold takeP at this
  rwa [hs, if_neg (by decide)] at this
theorem take_yes {B pb : Nat} {toks : List Tk} {st : Ps} {W : World} {tv : Value} {s : ByteArray} (hs : isP toks st s = true) (hn : toks.length ≤ 2000) (hp : st.pos ≤ 10000) (h : Prs B pb toks st W tv) :
    Calls Tryz.prog 61 #[.pointer (some ⟨pb, 0, none⟩), .string s] W fun e w' => e = .returned (.bool true) ∧ Prs B pb toks st.next w' tv ∧ Mv pb W tv w' tv := by
  have := own_take B pb toks st W tv s h hn hp
  unfold takeP at this
  rwa [hs, if_pos rfl] at this
def CFirst (toks : List Tk) (n : Nat) : Prop := ∀ B pb st w tv, Sit B pb toks st w tv → run toks n .firstPart st ≠ .na → Calls Tryz.prog 159 #[.pointer (some ⟨pb, 0, none⟩)] w (PO B pb toks w tv ret2 (run toks n .firstPart st))
def CPart (toks : List Tk) (n : Nat) : Prop := ∀ B pb st w tv, Sit B pb toks st w tv → run toks n .part st ≠ .na → Calls Tryz.prog 142 #[.pointer (some ⟨pb, 0, none⟩)] w (PO B pb toks w tv ret2 (run toks n .part st))
def COperand (toks : List Tk) (n : Nat) : Prop := ∀ B pb st w tv, Sit B pb toks st w tv → run toks n .operand st ≠ .na → Calls Tryz.prog 144 #[.pointer (some ⟨pb, 0, none⟩)] w (PO B pb toks w tv ret1 (run toks n .operand st))
def COps (toks : List Tk) (n : Nat) : Prop := ∀ B pb st w tv (least : Nat), least ≤ 6 → Sit B pb toks st w tv → run toks n (.ops least) st ≠ .na → Calls Tryz.prog 158 #[.pointer (some ⟨pb, 0, none⟩), .int .i64 (least : Int)] w (PO B pb toks w tv ret1 (run toks n (.ops least) st))
def CExpr (toks : List Tk) (n : Nat) : Prop := ∀ B pb st w tv, Sit B pb toks st w tv → run toks n .expr st ≠ .na → Calls Tryz.prog 141 #[.pointer (some ⟨pb, 0, none⟩)] w (PO B pb toks w tv ret1 (run toks n .expr st))
set_option maxHeartbeats 2000000 in
theorem c_first (toks : List Tk) (n : Nat) : CFirst toks n := by
  intro B pb st w tv hs hna
  cases n with
  | zero => exact absurd rfl hna
  | succ n =>
    simp only [run] at hna ⊢
    by_cases h1 : isP toks st ⟨#[40]⟩ = true
    · rw [if_pos h1] at hna; exact absurd rfl hna
    by_cases h2 : isP toks st ⟨#[102, 117, 110, 99]⟩ = true
    · rw [if_neg h1, if_pos h2] at hna; exact absurd rfl hna
    by_cases h3 : isP toks st ⟨#[91]⟩ = true
    · rw [if_neg h1, if_neg h2, if_pos h3] at hna; exact absurd rfl hna
    by_cases hk : pkK toks st.pos = 1
    · rw [if_neg h1, if_neg h2, if_neg h3, if_pos hk]
      have hp := hs.pos
      have hn := hs.n
      have hlt := pkK_lt hk
      have htr := hs.tree
      have e1 : isP toks st ⟨#[40]⟩ = false := by simpa using h1
      have e2 : isP toks st ⟨#[102, 117, 110, 99]⟩ = false := by simpa using h2
      have e3 : isP toks st ⟨#[91]⟩ = false := by simpa using h3
      have HT1 : Hid (∀ W, Prs B pb toks st W tv → Calls Tryz.prog 61 #[.pointer (some ⟨pb, 0, none⟩), .string ⟨#[40]⟩] W fun e w' => e = .returned (.bool false) ∧ Prs B pb toks st w' tv ∧ Mv pb W tv w' tv) := fun W h => take_no e1 hn (by omega) h
      have HT2 : Hid (∀ W, Prs B pb toks st W tv → Calls Tryz.prog 61 #[.pointer (some ⟨pb, 0, none⟩), .string ⟨#[102, 117, 110, 99]⟩] W fun e w' => e = .returned (.bool false) ∧ Prs B pb toks st w' tv ∧ Mv pb W tv w' tv) := fun W h => take_no e2 hn (by omega) h
      have HT3 : Hid (∀ W, Prs B pb toks st W tv → Calls Tryz.prog 61 #[.pointer (some ⟨pb, 0, none⟩), .string ⟨#[91]⟩] W fun e w' => e = .returned (.bool false) ∧ Prs B pb toks st w' tv ∧ Mv pb W tv w' tv) := fun W h => take_no e3 hn (by omega) h
      have HSI : Hid (∀ W, Prs B pb toks st W tv → Calls Tryz.prog 170 #[.pointer (some ⟨pb, 0, none⟩)] W fun e w' => e = .returned (Nd.val ⟨25, pkT toks st.pos, ⟨#[]⟩, 0, []⟩ (.slice none 0 0)) ∧ Prs B pb toks st.next w' tv ∧ Mv pb W tv w' tv) := fun W h => own_single B pb toks st W tv ⟨h, hn, hp, htr⟩ hk
      have HLA : Hid (∀ W, Prs B pb toks st.next W tv → Calls Tryz.prog 31 #[.pointer (some ⟨pb, 0, none⟩), Nd.val ⟨25, pkT toks st.pos, ⟨#[]⟩, 0, []⟩ (.slice none 0 0)] W fun e w' => e = .returned (.int .i64 st.tree.length) ∧ ∃ tv', Prs B pb toks (st.next.lay ⟨25, pkT toks st.pos, ⟨#[]⟩, 0, []⟩) w' tv' ∧ Mv pb W tv w' tv') := fun W h => own_lay B pb toks st.next W tv ⟨25, pkT toks st.pos, ⟨#[]⟩, 0, []⟩ none 0 0 h (nil_row W B) (by simp only [next_tree]; omega)
      have HP : Hid (Prs B pb toks st w tv) := hs.prs
      have HKI : Hid ((st.next.lay ⟨25, pkT toks st.pos, ⟨#[]⟩, 0, []⟩).tree[st.tree.length]? = some ⟨25, pkT toks st.pos, ⟨#[]⟩, 0, []⟩ ∧ (st.next.lay ⟨25, pkT toks st.pos, ⟨#[]⟩, 0, []⟩).tree.length = st.tree.length + 1) := ⟨by simp [Ps.lay, Ps.next], by simp [Ps.lay, Ps.next]⟩
      generalize st.next.lay ⟨25, pkT toks st.pos, ⟨#[]⟩, 0, []⟩ = st2 at *
      generalize hnv : Nd.val ⟨25, pkT toks st.pos, ⟨#[]⟩, 0, []⟩ (.slice none 0 0) = nv at *
      clear hna h1 h2 h3 hk hs e1 e2 e3 hnv
      go_enter Tryz.func159, Tryz.ntmps159
      go_wp2_with fail
      refine (HT1.out _ HP.out).mono ?_
      rintro e w1 ⟨rfl, q1, m1⟩
      have HQ1 : Hid (Prs B pb toks st w1 tv ∧ Mv pb w tv w1 tv) := ⟨q1, m1⟩
      clear q1 m1
      go_wp2_with fail
      refine (HT2.out _ HQ1.out.1).mono ?_
      rintro e w2 ⟨rfl, q1, m1⟩
      have HQ2 : Hid (Prs B pb toks st w2 tv ∧ Mv pb w tv w2 tv) := ⟨q1, HQ1.out.2.trans m1⟩
      clear q1 m1
      go_wp2_with fail
      refine (HT3.out _ HQ2.out.1).mono ?_
      rintro e w3 ⟨rfl, q1, m1⟩
      have HQ3 : Hid (Prs B pb toks st w3 tv ∧ Mv pb w tv w3 tv) := ⟨q1, HQ2.out.2.trans m1⟩
      clear q1 m1
      go_wp2_with fail
      refine (HSI.out _ HQ3.out.1).mono ?_
      rintro e w4 ⟨rfl, q1, m1⟩
      have HQ4 : Hid (Prs B pb toks st.next w4 tv ∧ Mv pb w tv w4 tv) := ⟨q1, HQ3.out.2.trans m1⟩
      clear q1 m1
      go_wp2_with fail
      refine (HLA.out _ HQ4.out.1).mono ?_
      rintro e w5 ⟨rfl, tv5, q1, m1⟩
      obtain ⟨g, gc, htv, hkc⟩ := q1.kindAt HKI.out.1
      obtain ⟨tq, tc, -, -, c2, -, -⟩ := q1.cells
      rw [htv, HKI.out.2] at c2
      have HQ5 : Hid (Prs B pb toks st2 w5 tv5 ∧ Mv pb w tv w5 tv5) := ⟨q1, HQ4.out.2.trans m1⟩
      clear q1 m1 htv
      go_wp2
      go_quiet (fail)
      go_wp2
      go_ret2
      exact ⟨rfl, _, HQ5.out.1.drewN _, HQ5.out.2.trans (HQ5.out.1.mvb (below_drewN1 _ _))⟩
    · rw [if_neg h1, if_neg h2, if_neg h3, if_neg hk] at hna; exact absurd rfl hna
set_option maxHeartbeats 2000000 in
theorem c_part (toks : List Tk) (n : Nat) : CPart toks n := by
  intro B pb st w tv hs hna
  cases n with
  | zero => exact absurd rfl hna
  | succ n =>
    simp only [run] at hna ⊢
    have HF := c_first toks n B pb st w tv hs
    cases hr : run toks n .firstPart st with
    | na => rw [hr] at hna; exact absurd rfl hna
    | bad =>
      rw [hr] at HF
      have HF' : Hid (Calls Tryz.prog 159 #[.pointer (some ⟨pb, 0, none⟩)] w (PO B pb toks w tv ret2 .bad)) := HF (by intro e; cases e)
      show Calls _ _ _ _ (PO B pb toks w tv ret2 .bad)
      clear hr hna HF hs
      go_enter Tryz.func142, Tryz.ntmps142
      go_wp2_with fail
      refine HF'.out.mono ?_
      rintro e w1 ⟨rfl, m⟩
      exact ⟨rfl, rfl, m⟩
    | ok r st1 =>
      rw [hr] at HF hna
      simp only [Out.bind] at hna ⊢
      split at hna
      · rename_i node last
        cases n with
        | zero => exact absurd rfl hna
        | succ n =>
          simp only [run] at hna ⊢
          by_cases h1 : isP toks st1 ⟨#[40]⟩ = true
          · rw [if_pos h1] at hna; exact absurd rfl hna
          by_cases h2 : isP toks st1 ⟨#[91]⟩ = true
          · rw [if_neg h1, if_pos h2] at hna; exact absurd rfl hna
          rw [if_neg h1, if_neg h2]
          have e1 : isP toks st1 ⟨#[40]⟩ = false := by simpa using h1
          have e2 : isP toks st1 ⟨#[91]⟩ = false := by simpa using h2
          obtain ⟨i1, i2, i3⟩ := run_inv toks _ _ _ _ _ hr hs.pos
          have hn := hs.n
          have HT1 : Hid (∀ W tv1, Prs B pb toks st1 W tv1 → Calls Tryz.prog 61 #[.pointer (some ⟨pb, 0, none⟩), .string ⟨#[40]⟩] W fun e w' => e = .returned (.bool false) ∧ Prs B pb toks st1 w' tv1 ∧ Mv pb W tv1 w' tv1) := fun W tv1 h => take_no e1 hn (by omega) h
          have HT2 : Hid (∀ W tv1, Prs B pb toks st1 W tv1 → Calls Tryz.prog 61 #[.pointer (some ⟨pb, 0, none⟩), .string ⟨#[91]⟩] W fun e w' => e = .returned (.bool false) ∧ Prs B pb toks st1 w' tv1 ∧ Mv pb W tv1 w' tv1) := fun W tv1 h => take_no e2 hn (by omega) h
          have HF' : Hid (Calls Tryz.prog 159 #[.pointer (some ⟨pb, 0, none⟩)] w (PO B pb toks w tv ret2 (.ok [node, last] st1))) := HF (by intro e; cases e)
          clear hr hna HF hs h1 h2 e1 e2 i1 i2 i3
          go_enter Tryz.func142, Tryz.ntmps142
          go_wp2_with fail
          refine HF'.out.mono ?_
          rintro e w1 ⟨rfl, tv1, q1, m1⟩
          have HQ1 : Hid (Prs B pb toks st1 w1 tv1 ∧ Mv pb w tv w1 tv1) := ⟨q1, m1⟩
          clear q1 m1
          simp only [ret2]
          go_wp2
          go_loopw [2, 3] (fun a b wr => a = .int .i64 node ∧ b = .int .i64 last ∧ Hid (wr = w1)) (fun _ _ _ => 0)
          case atStart => exact ⟨rfl, rfl, rfl⟩
          case round =>
            obtain ⟨rfl, rfl, HW⟩ := hrel
            obtain rfl := HW.out
            go_wp2_with fail
            refine (HT1.out _ _ HQ1.out.1).mono ?_
            rintro e w2 ⟨rfl, q1, m1⟩
            have HQ2 : Hid (Prs B pb toks st1 w2 tv1 ∧ Mv pb w tv w2 tv1) := ⟨q1, HQ1.out.2.trans m1⟩
            clear q1 m1
            go_wp2_with fail
            refine (HT2.out _ _ HQ2.out.1).mono ?_
            rintro e w3 ⟨rfl, q1, m1⟩
            have HQ3 : Hid (Prs B pb toks st1 w3 tv1 ∧ Mv pb w tv w3 tv1) := ⟨q1, HQ2.out.2.trans m1⟩
            clear q1 m1
            go_wp2
            go_ret2
            exact ⟨rfl, _, HQ3.out⟩
      · exact absurd rfl hna
end Go.Proofs.YtpdndpajobfhmabGreatDoor
