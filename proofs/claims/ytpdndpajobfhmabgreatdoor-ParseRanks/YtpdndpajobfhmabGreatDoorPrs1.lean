/- The parser's small steps: peek, is, take, must, name, giveUp. -/
import Derived.Test.YtpdndpajobfhmabGreatDoorPrs
namespace Go.Proofs.YtpdndpajobfhmabGreatDoor
open Go.ChangeShapes Go.WideShapes Go.ChangeAt Go.RowKit
set_option maxRecDepth 100000
set_option linter.unusedSimpArgs false
set_option linter.unusedVariables false

set_option maxHeartbeats 1000000 in
theorem own_peek (B pb : Nat) (toks : List Tk) (st : Ps) (w : World) (tv : Value) (j : Nat) (h : Prs B pb toks st w tv) (hn : toks.length ≤ 2000) (hp : st.pos + j ≤ 100000) :
    Calls Tryz.prog 58 #[.pointer (some ⟨pb, 0, none⟩), .int .i64 (j : Int)] w fun e w' =>
      ∃ ln cl : Int, e = .returned (.agg #[.int .i64 (pkK toks (st.pos + j)), .string (pkT toks (st.pos + j)), .int .i64 ln, .int .i64 cl]) ∧ Below w.heap.size w w' := by
  obtain ⟨tq, tc, c0, c1, c2, fz, ct⟩ := h.cells
  have hlt := h.lt
  by_cases hk : st.pos + j < toks.length
  · obtain ⟨t, ht⟩ : ∃ t, toks[st.pos + j]? = some t := ⟨_, List.getElem?_eq_getElem hk⟩
    obtain ⟨g, rfl, q0, q1, q2, q3⟩ := ct _ t ht
    have HK : Hid (pkK toks (st.pos + j) = t.kind ∧ pkT toks (st.pos + j) = t.text) := by constructor <;> simp [pkK, pkT, ht]
    have hg : g < w.heap.size := World.block_lt_of_cell? _ _ q0
    clear ct ht h fz
    go_enter Tryz.func58, Tryz.ntmps58
    go_wp2_with fail
    exact bodyPost_ret (v := .agg #[.int .i64 t.kind, .string t.text, .int .i64 t.line, .int .i64 t.col]) (by simp [results, Tryz.results58, go_sem]) rfl ⟨_, _, by rw [HK.out.1, HK.out.2], (Below.refl _ _).alloc (Nat.le_refl _) _⟩
  · have HK : Hid (pkK toks (st.pos + j) = 0 ∧ pkT toks (st.pos + j) = ⟨#[]⟩) := by
      have : toks[st.pos + j]? = none := List.getElem?_eq_none (by omega)
      constructor <;> simp [pkK, pkT, this]
    clear ct h fz
    go_enter Tryz.func58, Tryz.ntmps58
    go_wp2_with fail
    exact bodyPost_ret (v := .agg #[.int .i64 0, .string ⟨#[]⟩, .int .i64 0, .int .i64 0]) (by simp [results, Tryz.results58, go_sem]) rfl ⟨_, _, by rw [HK.out.1, HK.out.2], (Below.refl _ _).alloc (Nat.le_refl _) _⟩
theorem own_gu (pb : Nat) (w : World) : Calls Tryz.prog 62 #[.pointer (some ⟨pb, 0, none⟩)] w fun e w' => e = Gave 6 0 0 ∧ w' = w := by
  go_enter Tryz.func62, Tryz.ntmps62
  go_wp2
  exact ⟨rfl, rfl, rfl⟩
theorem field_text (k : Int) (t : ByteArray) (l c : Int) (w : World) : (Instr.field 64 (.agg #[.int .i64 k, .string t, .int .i64 l, .int .i64 c]) 1).run Tryz.prog w = .ok (.string t) w := by kernel_rfl
/-- Does this text stand next? -/
def isP (toks : List Tk) (st : Ps) (s : ByteArray) : Bool := (pkT toks st.pos).toList == s.toList
set_option maxHeartbeats 1000000 in
theorem own_is (B pb : Nat) (toks : List Tk) (st : Ps) (w : World) (tv : Value) (s : ByteArray) (h : Prs B pb toks st w tv) (hn : toks.length ≤ 2000) (hp : st.pos ≤ 10000) :
    Calls Tryz.prog 28 #[.pointer (some ⟨pb, 0, none⟩), .string s] w fun e w' => e = .returned (.bool (isP toks st s)) ∧ Below w.heap.size w w' := by
  have HP : Hid (Calls Tryz.prog 58 #[.pointer (some ⟨pb, 0, none⟩), .int .i64 0] w fun e w' =>
      ∃ ln cl : Int, e = .returned (.agg #[.int .i64 (pkK toks st.pos), .string (pkT toks st.pos), .int .i64 ln, .int .i64 cl]) ∧ Below w.heap.size w w') := own_peek B pb toks st w tv 0 h hn (by omega)
  unfold isP
  generalize pkT toks st.pos = T at *
  generalize pkK toks st.pos = K0 at *
  clear h
  go_enter Tryz.func28, Tryz.ntmps28
  go_wp2_with fail
  refine HP.out.mono ?_
  rintro e w1 ⟨ln, cl, rfl, hb⟩
  have hfl := field_text K0 T ln cl
  go_wp2
  go_ret
  exact ⟨rfl, hb⟩
def Ps.next (st : Ps) : Ps := ⟨st.pos + 1, st.tree⟩
def takeP (toks : List Tk) (st : Ps) (s : ByteArray) : Ps := if isP toks st s then st.next else st
set_option maxHeartbeats 1000000 in
theorem own_take (B pb : Nat) (toks : List Tk) (st : Ps) (w : World) (tv : Value) (s : ByteArray) (h : Prs B pb toks st w tv) (hn : toks.length ≤ 2000) (hp : st.pos ≤ 10000) :
    Calls Tryz.prog 61 #[.pointer (some ⟨pb, 0, none⟩), .string s] w fun e w' => e = .returned (.bool (isP toks st s)) ∧ Prs B pb toks (takeP toks st s) w' tv ∧ Mv pb w tv w' tv := by
  have HP : Hid (Calls Tryz.prog 28 #[.pointer (some ⟨pb, 0, none⟩), .string s] w fun e w' => e = .returned (.bool (isP toks st s)) ∧ Below w.heap.size w w') := own_is B pb toks st w tv s h hn hp
  have HH : Hid (Prs B pb toks st w tv) := h
  unfold takeP
  clear h
  cases hi : isP toks st s with
  | false =>
    rw [hi] at HP
    rw [if_neg (by decide)]
    clear hi
    go_enter Tryz.func61, Tryz.ntmps61
    go_wp2_with fail
    refine HP.out.mono ?_
    rintro e w1 ⟨rfl, hb⟩
    have HF : Hid (Prs B pb toks st w1 tv ∧ Mv pb w tv w1 tv) := ⟨HH.out.below hb, HH.out.mvb hb⟩
    clear hb
    go_wp2
    go_ret
    exact ⟨rfl, HF.out⟩
  | true =>
    rw [hi] at HP
    rw [if_pos rfl]
    clear hi
    go_enter Tryz.func61, Tryz.ntmps61
    go_wp2_with fail
    refine HP.out.mono ?_
    rintro e w1 ⟨rfl, hb⟩
    have h1 := HH.out.below hb
    obtain ⟨tq, tc, -, c1, -, fz, -⟩ := h1.cells
    have f1 := fz 1
    have HF : Hid (Prs B pb toks st.next (w1.setCell ⟨pb, 1, none⟩ (.int .i64 (st.pos + 1 : Nat))) tv ∧ Mv pb w tv (w1.setCell ⟨pb, 1, none⟩ (.int .i64 (st.pos + 1 : Nat))) tv) := ⟨(h1.setPos _).1, (HH.out.mvb hb).trans (h1.setPos _).2⟩
    clear hb h1 fz
    go_wp2
    go_ret
    exact ⟨rfl, HF.out⟩
def unitV : Unit → Value := fun _ => .tuple #[]
def mustP (toks : List Tk) (st : Ps) (s : ByteArray) : Option (Unit × Ps) := if isP toks st s then some ((), st.next) else none
set_option maxHeartbeats 1000000 in
theorem own_must (B pb : Nat) (toks : List Tk) (st : Ps) (w : World) (tv : Value) (s : ByteArray) (h : Prs B pb toks st w tv) (hn : toks.length ≤ 2000) (hp : st.pos ≤ 10000) :
    Calls Tryz.prog 30 #[.pointer (some ⟨pb, 0, none⟩), .string s] w (PP B pb toks w tv unitV (mustP toks st s)) := by
  have HP := own_take B pb toks st w tv s h hn hp
  unfold takeP at HP
  unfold mustP
  clear h
  cases hi : isP toks st s with
  | false =>
    rw [hi, if_neg (by decide)] at HP
    rw [if_neg (by decide)]
    have HP' : Hid (Calls Tryz.prog 61 #[.pointer (some ⟨pb, 0, none⟩), .string s] w fun e w' => e = .returned (.bool false) ∧ Prs B pb toks st w' tv ∧ Mv pb w tv w' tv) := HP
    clear hi HP
    go_enter Tryz.func30, Tryz.ntmps30
    go_wp2_with fail
    refine HP'.out.mono ?_
    rintro e w1 ⟨rfl, -, hm⟩
    have HM : Hid (Mv pb w tv w1 tv) := hm
    clear hm
    go_wp2_with fail
    refine (own_gu pb _).mono ?_
    rintro e w2 ⟨rfl, rfl⟩
    exact ⟨rfl, rfl, _, HM.out⟩
  | true =>
    rw [hi, if_pos rfl] at HP
    rw [if_pos rfl]
    have HP' : Hid (Calls Tryz.prog 61 #[.pointer (some ⟨pb, 0, none⟩), .string s] w fun e w' => e = .returned (.bool true) ∧ Prs B pb toks st.next w' tv ∧ Mv pb w tv w' tv) := HP
    clear hi HP
    go_enter Tryz.func30, Tryz.ntmps30
    go_wp2_with fail
    refine HP'.out.mono ?_
    rintro e w1 ⟨rfl, hq, hm⟩
    have HM : Hid (Prs B pb toks st.next w1 tv ∧ Mv pb w tv w1 tv) := ⟨hq, hm⟩
    clear hm hq
    go_wp2
    go_end0
    exact ⟨rfl, _, HM.out⟩
def nameP (toks : List Tk) (st : Ps) : Option (ByteArray × Ps) := if pkK toks st.pos = 1 then some (pkT toks st.pos, st.next) else none
set_option maxHeartbeats 1000000 in
theorem own_pname (B pb : Nat) (toks : List Tk) (st : Ps) (w : World) (tv : Value) (h : Prs B pb toks st w tv) (hn : toks.length ≤ 2000) (hp : st.pos ≤ 10000) :
    Calls Tryz.prog 60 #[.pointer (some ⟨pb, 0, none⟩)] w (PP B pb toks w tv Value.string (nameP toks st)) := by
  have HP : Hid (Calls Tryz.prog 58 #[.pointer (some ⟨pb, 0, none⟩), .int .i64 0] w fun e w' =>
      ∃ ln cl : Int, e = .returned (.agg #[.int .i64 (pkK toks st.pos), .string (pkT toks st.pos), .int .i64 ln, .int .i64 cl]) ∧ Below w.heap.size w w') := own_peek B pb toks st w tv 0 h hn (by omega)
  have HH : Hid (Prs B pb toks st w tv) := h
  unfold nameP
  generalize pkT toks st.pos = T at *
  generalize pkK toks st.pos = K0 at *
  clear h
  by_cases hk : K0 = 1
  · subst hk
    rw [if_pos rfl]
    go_enter Tryz.func60, Tryz.ntmps60
    go_wp2_with fail
    refine HP.out.mono ?_
    rintro e w1 ⟨ln, cl, rfl, hb⟩
    have hb2 : Below w.heap.size w (w1.alloc (.cells #[.int .i64 1, .string T, .int .i64 ln, .int .i64 cl] 64)) := hb.alloc hb.size _
    have h1 := HH.out.below hb2
    have hne : pb ≠ w1.heap.size := by have := (HH.out.below hb).lt; omega
    obtain ⟨tq, tc, -, c1, -, fz, -⟩ := h1.cells
    have f1 := fz 1
    have HF : Hid (Prs B pb toks st.next ((w1.alloc (.cells #[.int .i64 1, .string T, .int .i64 ln, .int .i64 cl] 64)).setCell ⟨pb, 1, none⟩ (.int .i64 (st.pos + 1 : Nat))) tv ∧ Mv pb w tv ((w1.alloc (.cells #[.int .i64 1, .string T, .int .i64 ln, .int .i64 cl] 64)).setCell ⟨pb, 1, none⟩ (.int .i64 (st.pos + 1 : Nat))) tv) := ⟨(h1.setPos _).1, (HH.out.mvb hb2).trans (h1.setPos _).2⟩
    clear hb hb2 h1 fz
    go_wp2
    go_ret
    exact ⟨rfl, _, HF.out⟩
  · have hk' : (K0 != 1) = true := by simpa using hk
    rw [if_neg hk]
    clear hk
    go_enter Tryz.func60, Tryz.ntmps60
    go_wp2_with fail
    refine HP.out.mono ?_
    rintro e w1 ⟨ln, cl, rfl, hb⟩
    have HM : Hid (Mv pb w tv (w1.alloc (.cells #[.int .i64 K0, .string T, .int .i64 ln, .int .i64 cl] 64)) tv) := HH.out.mvb (hb.alloc hb.size _)
    clear hb
    go_wp2_with fail
    refine (own_gu pb _).mono ?_
    rintro e w2 ⟨rfl, rfl⟩
    exact ⟨rfl, rfl, _, HM.out⟩
end Go.Proofs.YtpdndpajobfhmabGreatDoor
