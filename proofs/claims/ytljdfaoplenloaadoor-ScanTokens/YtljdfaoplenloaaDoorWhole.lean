/- What scan.isWhole answers; a whole token is short. -/
import Derived.Test.YtljdfaoplenloaaDoorOwnfirst
import Derived.Lib.ItoaLen
namespace Go.Proofs.YtljdfaoplenloaaDoor
open Go.ChangeShapes Go.WideShapes Go.ChangeAt Go.RowKit
set_option maxRecDepth 100000
set_option linter.unusedSimpArgs false

/-- A token with whatever numbers. -/
structure Tj where
  kind : Int
  text : ByteArray
  line : Int
  col : Int
def Tj.val (t : Tj) : Value := .agg #[.int .i64 t.kind, .string t.text, .int .i64 t.line, .int .i64 t.col]
/-- Is all of a token's text one token of its kind? -/
def wholeB (t : Tj) : Bool := if h : 0 < t.text.size then ((fsT t.text h).2.2 == 0) && (((fsT t.text h).1 == t.kind) && ((fsT t.text h).2.1 == (t.text.size : Int))) else false
theorem rd_two : ∀ (l s : List UInt8) (n : Nat), rd l = some (s, n) → n ≤ 2 * s.length + 1 := by
  intro l
  induction hn : l.length using Nat.strongRecOn generalizing l with
  | ind m ih =>
    intro s n h
    cases l with
    | nil => simp [rd] at h
    | cons c r =>
      by_cases hc : c = 34
      · subst hc; rw [rd_close] at h; cases h; simp
      · obtain ⟨h0, s', rfl, h1, h2⟩ := rd_on hc h
        have hp := piece_le (c :: r)
        have := ih ((c :: r).drop (piece (c :: r)).2).length (by rw [List.length_drop]; simp only [List.length_cons] at *; omega) _ rfl s' _ h1
        simp only [List.length_cons]
        omega
theorem rq_short {l : List UInt8} (h : rqE l = 0) : rqN l ≤ 402 := by
  unfold rqE at h
  unfold rqN
  cases hq : rq l with
  | none => rw [hq] at h; cases h
  | some p =>
    simp only
    unfold rq at hq
    cases l with
    | nil => cases hq
    | cons c r =>
      simp only at hq
      split at hq
      · obtain ⟨q, h1, h2⟩ := Option.bind_eq_some_iff.1 hq
        split at h2
        · next hl =>
          cases h2
          have := rd_two r q.1 q.2 h1
          omega
        · cases h2
      · cases hq
theorem fs_short (s : ByteArray) (h : 0 < s.size) (he : (fsT s h).2.2 = 0) (hn : (fsT s h).2.1 = (s.size : Int)) : s.size ≤ 402 := by
  unfold fsT at he hn
  split at he
  · next hc =>
    rw [if_pos hc] at hn
    unfold nmT at he hn
    split at he
    · cases he
    · next h16 =>
      rw [if_neg h16] at hn
      split at hn <;> simp only at hn <;> omega
  · next hc =>
    rw [if_neg hc] at hn
    split at he
    · next hd =>
      rw [if_pos hd] at hn
      unfold inT at he hn
      split at he
      · next h0 =>
        rw [if_pos h0] at hn
        obtain ⟨e, b1, b2⟩ := rd_ok h0
        have hl := Lib.itoa_length_le _ b1 b2
        have hz : (s.extract 0 (runN s.data.toList)).size = (txt (rdN (s.extract 0 (runN s.data.toList)))).size := by rw [e]
        have hz2 : (txt (rdN (s.extract 0 (runN s.data.toList)))).size ≤ 21 := by
          unfold txt
          rw [← bsize_list]
          simpa using hl
        simp only at hn
        omega
      · cases he
    · next hd =>
      rw [if_neg hd] at hn
      split at he
      · next h34 =>
        rw [if_pos h34] at hn
        unfold txT at he hn
        split at he
        · next h0 =>
          rw [if_pos h0] at hn
          have := rq_short h0
          simp only at hn
          omega
        · cases he
      · next h34 =>
        rw [if_neg h34] at hn
        split at he
        · next h59 => rw [if_pos h59] at hn; simp only at hn; omega
        · next h59 =>
          rw [if_neg h59] at hn
          unfold sgT at he hn
          split at he
          · cases he
          · next hs =>
            rw [if_neg hs] at hn
            have h2 : sgnN s ≤ 2 := by unfold sgnN; (repeat' split) <;> omega
            simp only at hn
            omega
theorem whole_short {t : Tj} (h : wholeB t = true) : t.text.size ≤ 402 := by
  unfold wholeB at h
  split at h
  · next h0 =>
    simp only [Bool.and_eq_true, beq_iff_eq] at h
    exact fs_short t.text h0 h.1 h.2.2
  · cases h
set_option maxHeartbeats 2000000 in
theorem own_whole (t : Tj) (w : World) (hs : t.text.size ≤ 281474976710656) (hl : Lib3 w) :
    Calls Tryd.prog 20 #[t.val] w fun e w' => e = .returned (.bool (wholeB t)) ∧ Below w.heap.size w w' := by
  unfold Tj.val wholeB
  have hsm : t.text.size ≤ 281474976710656 := hs
  by_cases h0 : 0 < t.text.size
  · rw [dif_pos h0]
    have hq : (t.text.toList == []) = false := by
      rw [ByteArray.toList_eq, beq_eq_false_iff_ne]
      intro e
      have := bsize_list t.text
      rw [e] at this
      simp at this
      omega
    have HF : Hid (∀ W, Below w.heap.size w W → Calls Tryd.prog 28 #[.string t.text] W fun e w' => e = .returned (.tuple #[.int .i64 (fsT t.text h0).1, .int .i64 (fsT t.text h0).2.1, .int .i64 (fsT t.text h0).2.2]) ∧ Below W.heap.size W w') := fun W hW => own_first t.text W h0 hs (hl.below hW)
    generalize (fsT t.text h0).1 = a at *
    generalize (fsT t.text h0).2.1 = b at *
    generalize (fsT t.text h0).2.2 = c at *
    have HB1 : Hid (Below w.heap.size w (w.alloc (.cells #[.int .i64 t.kind, .string t.text, .int .i64 t.line, .int .i64 t.col] 33))) := (Below.refl _ _).alloc (Nat.le_refl _) _
    clear hl hs
    cases hc : (c == 0) with
    | false =>
      go_enter Tryd.func20, Tryd.ntmps20
      go_wp2_with fail
      refine (HF.out _ HB1.out).mono ?_
      rintro e w1 ⟨rfl, b1⟩
      have HB2 : Hid (Below w.heap.size w w1) := HB1.out.trans (b1.mono (by simp))
      have q0 : w1.cell? ⟨w.heap.size, 0, none⟩ = some (.int .i64 t.kind) := by rw [b1.cell (p := ⟨w.heap.size, 0, none⟩) (by simp)]; simp
      have q1 : w1.cell? ⟨w.heap.size, 1, none⟩ = some (.string t.text) := by rw [b1.cell (p := ⟨w.heap.size, 1, none⟩) (by simp)]; simp
      clear b1
      go_wp2_with fail
      go_ret
      exact ⟨by first | rfl | simp [hc], HB2.out⟩
    | true =>
      cases ha : (a == t.kind) with
      | false =>
        go_enter Tryd.func20, Tryd.ntmps20
        go_wp2_with fail
        refine (HF.out _ HB1.out).mono ?_
        rintro e w1 ⟨rfl, b1⟩
        have HB2 : Hid (Below w.heap.size w w1) := HB1.out.trans (b1.mono (by simp))
        have q0 : w1.cell? ⟨w.heap.size, 0, none⟩ = some (.int .i64 t.kind) := by rw [b1.cell (p := ⟨w.heap.size, 0, none⟩) (by simp)]; simp
        have q1 : w1.cell? ⟨w.heap.size, 1, none⟩ = some (.string t.text) := by rw [b1.cell (p := ⟨w.heap.size, 1, none⟩) (by simp)]; simp
        clear b1
        go_wp2_with fail
        go_ret
        exact ⟨by first | rfl | simp [hc, ha], HB2.out⟩
      | true =>
        go_enter Tryd.func20, Tryd.ntmps20
        go_wp2_with fail
        refine (HF.out _ HB1.out).mono ?_
        rintro e w1 ⟨rfl, b1⟩
        have HB2 : Hid (Below w.heap.size w w1) := HB1.out.trans (b1.mono (by simp))
        have q0 : w1.cell? ⟨w.heap.size, 0, none⟩ = some (.int .i64 t.kind) := by rw [b1.cell (p := ⟨w.heap.size, 0, none⟩) (by simp)]; simp
        have q1 : w1.cell? ⟨w.heap.size, 1, none⟩ = some (.string t.text) := by rw [b1.cell (p := ⟨w.heap.size, 1, none⟩) (by simp)]; simp
        clear b1
        go_wp2_with fail
        go_ret
        exact ⟨by first | rfl | simp [hc, ha], HB2.out⟩
  · rw [dif_neg h0]
    have hl0 : t.text.data.toList = [] := List.length_eq_zero_iff.1 (by rw [bsize_list]; omega)
    have hq : (t.text.toList == []) = true := by rw [ByteArray.toList_eq, hl0]; rfl
    clear hl0 hl hs
    go_enter Tryd.func20, Tryd.ntmps20
    go_wp2_with fail
    go_ret
    exact ⟨rfl, (Below.refl _ _).alloc (Nat.le_refl _) _⟩
end Go.Proofs.YtljdfaoplenloaaDoor
