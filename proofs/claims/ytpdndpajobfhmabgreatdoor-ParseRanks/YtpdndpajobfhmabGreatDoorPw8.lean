/- The parser's steps over functions and files. -/
import Derived.Test.YtpdndpajobfhmabGreatDoorPw7
namespace Go.Proofs.YtpdndpajobfhmabGreatDoor
open Go.ChangeShapes Go.WideShapes Go.ChangeAt Go.RowKit
set_option maxRecDepth 100000
set_option linter.unusedSimpArgs false
set_option linter.unusedVariables false

theorem name_yes {B pb : Nat} {toks : List Tk} {st : Ps} {W : World} {tv : Value} (hk : pkK toks st.pos = 1) (hn : toks.length ≤ 2000) (hp : st.pos ≤ 10000) (h : Prs B pb toks st W tv) :
    Calls Tryz.prog 60 #[.pointer (some ⟨pb, 0, none⟩)] W (PP B pb toks W tv Value.string (some (pkT toks st.pos, st.next))) := by
  have := own_pname B pb toks st W tv h hn hp
  unfold nameP at this
  rwa [if_pos hk] at this
theorem name_no {B pb : Nat} {toks : List Tk} {st : Ps} {W : World} {tv : Value} (hk : ¬ pkK toks st.pos = 1) (hn : toks.length ≤ 2000) (hp : st.pos ≤ 10000) (h : Prs B pb toks st W tv) :
    Calls Tryz.prog 60 #[.pointer (some ⟨pb, 0, none⟩)] W (PP B pb toks W tv Value.string none) := by
  have := own_pname B pb toks st W tv h hn hp
  unfold nameP at this
  rwa [if_neg hk] at this
def CFunc (toks : List Tk) (n : Nat) : Prop := ∀ B pb st w tv, Sit B pb toks st w tv → run toks n .function st ≠ .na → Calls Tryz.prog 29 #[.pointer (some ⟨pb, 0, none⟩)] w (PO B pb toks w tv ret1 (run toks n .function st))
set_option maxHeartbeats 2000000 in
theorem c_func (toks : List Tk) (n : Nat) : CFunc toks n := by
  intro B pb st w tv hs hna
  cases n with
  | zero => exact absurd rfl hna
  | succ n =>
    simp only [run] at hna ⊢
    have hp := hs.pos
    have hn := hs.n
    have htr := hs.tree
    have HMU := own_must B pb toks st w tv ⟨#[102, 117, 110, 99]⟩ hs.prs hn (by omega)
    unfold mustP at HMU
    cases h1 : isP toks st ⟨#[102, 117, 110, 99]⟩ with
    | false =>
      rw [h1, if_neg (by decide)] at HMU
      rw [if_pos rfl]
      have HM' : Hid (Calls Tryz.prog 30 #[.pointer (some ⟨pb, 0, none⟩), .string ⟨#[102, 117, 110, 99]⟩] w (PP B pb toks w tv unitV none)) := HMU
      clear hna HMU hs h1
      go_enter Tryz.func29, Tryz.ntmps29
      go_wp2_with fail
      refine HM'.out.mono ?_
      rintro e w1 ⟨rfl, m⟩
      exact ⟨rfl, rfl, m⟩
    | true =>
      rw [h1, if_pos rfl] at HMU
      rw [h1, if_neg (by decide)] at hna
      rw [if_neg (by decide)]
      have hl0 := isP_lt h1 (by decide)
      have HM' : Hid (Calls Tryz.prog 30 #[.pointer (some ⟨pb, 0, none⟩), .string ⟨#[102, 117, 110, 99]⟩] w (PP B pb toks w tv unitV (some ((), st.next)))) := HMU
      clear HMU
      by_cases hk : pkK toks (st.pos + 1) = 1
      · rw [if_pos hk] at hna ⊢
        have hl1 := pkK_lt hk
        have HN' : Hid (∀ W tvx, Prs B pb toks st.next W tvx → Calls Tryz.prog 60 #[.pointer (some ⟨pb, 0, none⟩)] W (PP B pb toks W tvx Value.string (some (pkT toks (st.pos + 1), st.next.next)))) := fun W tvx h => name_yes (st := st.next) hk hn (by simp only [next_pos]; omega) h
        have HHD : Hid (∀ W tvx, Prs B pb toks st.next.next W tvx → Calls Tryz.prog 59 #[.pointer (some ⟨pb, 0, none⟩), .agg #[.int .i64 2, .string (pkT toks (st.pos + 1)), .string ⟨#[]⟩, .int .i64 0, .slice none 0 0]] W (PO B pb toks W tvx ret1 (run toks n (.head 2 (pkT toks (st.pos + 1))) st.next.next))) := fun W tvx h => c_head toks n B pb _ W tvx 2 _ ⟨h, hn, by simp only [next_pos]; omega, by simp only [next_pos, next_tree]; omega⟩ hna
        clear hk h1 hs
        generalize run toks n (.head 2 (pkT toks (st.pos + 1))) st.next.next = R at *
        generalize pkT toks (st.pos + 1) = T at *
        generalize st.next.next = st2 at *
        generalize st.next = st1 at *
        cases R with
        | na => exact absurd rfl hna
        | bad =>
          clear hna
          go_enter Tryz.func29, Tryz.ntmps29
          go_wp2_with fail
          refine HM'.out.mono ?_
          rintro e w1 ⟨rfl, tv1, q1, m1⟩
          have HQ1 : Hid (Prs B pb toks st1 w1 tv1 ∧ Mv pb w tv w1 tv1) := ⟨q1, m1⟩
          clear q1 m1
          go_wp2_with fail
          refine (HN'.out _ _ HQ1.out.1).mono ?_
          rintro e w2 ⟨rfl, tv2, q2, m2⟩
          have HQ2 : Hid (Prs B pb toks st2 w2 tv2 ∧ Mv pb w tv w2 tv2) := ⟨q2, HQ1.out.2.trans m2⟩
          clear q2 m2
          go_wp2_with fail
          refine (HHD.out _ _ HQ2.out.1).mono ?_
          rintro e w3 ⟨rfl, tv3, m3⟩
          exact ⟨rfl, rfl, _, HQ2.out.2.trans m3⟩
        | ok r st3 =>
          clear hna
          go_enter Tryz.func29, Tryz.ntmps29
          go_wp2_with fail
          refine HM'.out.mono ?_
          rintro e w1 ⟨rfl, tv1, q1, m1⟩
          have HQ1 : Hid (Prs B pb toks st1 w1 tv1 ∧ Mv pb w tv w1 tv1) := ⟨q1, m1⟩
          clear q1 m1
          go_wp2_with fail
          refine (HN'.out _ _ HQ1.out.1).mono ?_
          rintro e w2 ⟨rfl, tv2, q2, m2⟩
          have HQ2 : Hid (Prs B pb toks st2 w2 tv2 ∧ Mv pb w tv w2 tv2) := ⟨q2, HQ1.out.2.trans m2⟩
          clear q2 m2
          go_wp2_with fail
          refine (HHD.out _ _ HQ2.out.1).mono ?_
          rintro e w3 ⟨rfl, tv3, q3, m3⟩
          have HQ3 : Hid (Prs B pb toks st3 w3 tv3 ∧ Mv pb w tv w3 tv3) := ⟨q3, HQ2.out.2.trans m3⟩
          clear q3 m3
          go_wp2
          go_ret
          exact ⟨rfl, _, HQ3.out⟩
      · rw [if_neg hk]
        have HN' : Hid (∀ W tvx, Prs B pb toks st.next W tvx → Calls Tryz.prog 60 #[.pointer (some ⟨pb, 0, none⟩)] W (PP B pb toks W tvx Value.string none)) := fun W tvx h => name_no (st := st.next) hk hn (by simp only [next_pos]; omega) h
        clear hk h1 hs hna
        generalize st.next = st1 at *
        go_enter Tryz.func29, Tryz.ntmps29
        go_wp2_with fail
        refine HM'.out.mono ?_
        rintro e w1 ⟨rfl, tv1, q1, m1⟩
        have HQ1 : Hid (Prs B pb toks st1 w1 tv1 ∧ Mv pb w tv w1 tv1) := ⟨q1, m1⟩
        clear q1 m1
        go_wp2_with fail
        refine (HN'.out _ _ HQ1.out.1).mono ?_
        rintro e w2 ⟨rfl, tv2, m2⟩
        exact ⟨rfl, rfl, _, HQ1.out.2.trans m2⟩
theorem func_adv {toks : List Tk} {n : Nat} {st st' : Ps} {r : List Nat} (h : run toks n .function st = .ok r st') : st.pos + 1 ≤ st'.pos := by
  cases n with
  | zero => cases h
  | succ n =>
    simp only [run] at h
    split at h
    · cases h
    · split at h
      · rename_i hk
        have hl := pkK_lt hk
        obtain ⟨a1, _, _⟩ := run_inv toks _ _ _ _ _ h (by simp only [next_pos]; omega)
        simp only [next_pos] at a1
        omega
      · cases h
def CFile (toks : List Tk) (n : Nat) : Prop := ∀ B pb st w tv, Sit B pb toks st w tv → run toks n .file st ≠ .na → Calls Tryz.prog 17 #[.pointer (some ⟨pb, 0, none⟩)] w (PO B pb toks w tv (fun _ => .tuple #[]) (run toks n .file st))
def FRel (B pb : Nat) (toks : List Tk) (w : World) (tv : Value) (n : Nat) (R : Out) (kids : List Nat) (v : Value) (wr : World) : Prop := ∃ (m : Nat) (st1 : Ps) (tv1 : Value), m ≤ n ∧ KRel B pb toks w tv st1 wr tv1 kids v ∧ kids.length ≤ st1.pos ∧ run toks m (.fileLoop kids) st1 = R
end Go.Proofs.YtpdndpajobfhmabGreatDoor
