/- What parse.mostOpen answers. -/
import Derived.Test.YtpdndpajobfhmabGreatDoorPw9
namespace Go.Proofs.YtpdndpajobfhmabGreatDoor
open Go.ChangeShapes Go.WideShapes Go.ChangeAt Go.RowKit
set_option maxRecDepth 100000
set_option linter.unusedSimpArgs false
set_option linter.unusedVariables false

/-- Brackets that are open behind a token, of those open ahead of it. -/
def opn (t : ByteArray) (o : Nat) : Nat := if startsB t [[40], [91], [123]] then o + 1 else if startsB t [[41], [93], [125]] then o - 1 else o
/-- How many are open at most, and how many are. -/
def mo (toks : List Tk) : Nat → Nat × Nat
  | 0 => (0, 0)
  | k + 1 => match toks[k]? with
    | some t => (max (mo toks k).1 (opn t.text (mo toks k).2), opn t.text (mo toks k).2)
    | none => mo toks k
theorem opn_le (t : ByteArray) (o : Nat) : opn t o ≤ o + 1 := by unfold opn; (repeat' split) <;> omega
theorem mo_le (toks : List Tk) : ∀ k, (mo toks k).1 ≤ k ∧ (mo toks k).2 ≤ k
  | 0 => ⟨Nat.le_refl _, Nat.le_refl _⟩
  | k + 1 => by
    have := mo_le toks k
    unfold mo
    split
    · rename_i t _
      have := opn_le t.text (mo toks k).2
      simp only
      omega
    · omega
theorem mo_step {toks : List Tk} {k : Nat} {t : Tk} (h : toks[k]? = some t) : mo toks (k + 1) = (max (mo toks k).1 (opn t.text (mo toks k).2), opn t.text (mo toks k).2) := by
  conv => lhs; unfold mo
  rw [h]
theorem tok_row {w : World} {B k cap : Nat} {ao : Option Addr} {l : List Tk} {t : Tk} (h : w.ownsRow B 64 4 (.slice ao l.length cap) l.length (tcells l)) (hk : l[k]? = some t) :
    ∃ g, ao = some ⟨g, 0, none⟩ ∧ w.cell? ⟨g, k * 4, none⟩ = some (.int .i64 t.kind) ∧ w.cell? ⟨g, k * 4 + 1, none⟩ = some (.string t.text) ∧ w.cell? ⟨g, k * 4 + 2, none⟩ = some (.int .i64 t.line) ∧ w.cell? ⟨g, k * 4 + 3, none⟩ = some (.int .i64 t.col) := by
  have hlt : k < l.length := (List.getElem?_eq_some_iff.1 hk).1
  rcases h.2 with ⟨hv, h0⟩ | ⟨g, c, cur, hv, _⟩
  · omega
  · simp only [Value.slice.injEq] at hv
    obtain ⟨rfl, -, rfl⟩ := hv
    have hget : ∀ i, i < 4 → (tcells l)[k * 4 + i]? = t.cells[i]? := fun i hi => by
      obtain ⟨l1, l2, hl, hlen⟩ : ∃ l1 l2, l = l1 ++ t :: l2 ∧ l1.length = k := ⟨l.take k, l.drop (k + 1), by rw [← (List.getElem?_eq_some_iff.1 hk).2, ← List.drop_eq_getElem_cons hlt, List.take_append_drop], by simp; omega⟩
      rw [hl, tcells, List.flatMap_append, List.flatMap_cons, List.getElem?_append_right (by have := tcells_len l1; unfold tcells at this; omega)]
      have := tcells_len l1
      unfold tcells at this
      rw [this, show k * 4 + i - l1.length * 4 = i by omega, List.getElem?_append_left (by simp [Tk.cells]; omega)]
    refine ⟨g, rfl, ?_, ?_, ?_, ?_⟩
    · rw [h.cellAt (k * 4) (by omega)]; exact hget 0 (by decide)
    · rw [h.cellAt (k * 4 + 1) (by omega)]; exact hget 1 (by decide)
    · rw [h.cellAt (k * 4 + 2) (by omega)]; exact hget 2 (by decide)
    · rw [h.cellAt (k * 4 + 3) (by omega)]; exact hget 3 (by decide)
set_option maxHeartbeats 4000000 in
theorem own_most (toks : List Tk) (B : Nat) (w : World) (ao : Option Addr) (ca : Nat) (hA : w.ownsRow B 64 4 (.slice ao toks.length ca) toks.length (tcells toks)) (hn : toks.length ≤ 2000) :
    Calls Tryz.prog 16 #[.slice ao toks.length ca] w fun e w' => e = .returned (.int .i64 ((mo toks toks.length).1 : Int)) ∧ Below w.heap.size w w' := by
  have HA : Hid (w.ownsRow B 64 4 (.slice ao toks.length ca) toks.length (tcells toks)) := hA
  clear hA
  go_enter Tryz.func16, Tryz.ntmps16
  go_wp2
  go_loopw [3, 4, 9] (fun a b i wr => ∃ k : Nat, k ≤ toks.length ∧ i = .int .i64 k ∧ a = .int .i64 ((mo toks k).1 : Int) ∧ b = .int .i64 ((mo toks k).2 : Int) ∧ Hid (Below w.heap.size w wr)) (fun _ _ i _ => toks.length - (intOf i).toNat)
  case atStart => exact ⟨0, Nat.zero_le _, rfl, rfl, rfl, Below.refl _ _⟩
  case round =>
    obtain ⟨k, hk, rfl, rfl, rfl, HB⟩ := hrel
    obtain ⟨l1, l2⟩ := mo_le toks k
    by_cases hlt : k < toks.length
    · obtain ⟨t, ht⟩ : ∃ t, toks[k]? = some t := ⟨_, List.getElem?_eq_getElem hlt⟩
      obtain ⟨g, rfl, q0, q1, q2, q3⟩ := tok_row (w := wr) (B := B) (cap := ca) (row_on HA.out (Nat.le_refl _) HB.out) ht
      have hg : g < wr.heap.size := World.block_lt_of_cell? _ _ q0
      have HST : Hid (mo toks (k + 1) = (max (mo toks k).1 (opn t.text (mo toks k).2), opn t.text (mo toks k).2)) := mo_step ht
      have HB2 : Hid (Below w.heap.size w (wr.alloc (.cells #[.int .i64 t.kind, .string t.text, .int .i64 t.line, .int .i64 t.col] 64))) := HB.out.alloc HB.out.size _
      generalize (mo toks k).1 = x at *
      generalize (mo toks k).2 = y at *
      clear ht
      by_cases h0 : (t.text.toList == [40]) = true
      · have HO : Hid (opn t.text y = y + 1) := by show _ = _; unfold opn startsB; simp [h0]
        go_wp2
        exact ⟨⟨k + 1, by omega, by go_num, by rw [HST.out, HO.out]; first | rfl | (simp only []; congr 1; omega) | (congr 1; omega), by rw [HST.out, HO.out]; first | rfl | (congr 1; omega) | go_num, HB2.out⟩, by simp [intOf]; omega⟩
      have g0 : (t.text.toList == [40]) = false := by simpa using h0
      clear h0
      by_cases h1 : (t.text.toList == [91]) = true
      · have HO : Hid (opn t.text y = y + 1) := by show _ = _; unfold opn startsB; simp [g0, h1]
        go_wp2
        exact ⟨⟨k + 1, by omega, by go_num, by rw [HST.out, HO.out]; first | rfl | (simp only []; congr 1; omega) | (congr 1; omega), by rw [HST.out, HO.out]; first | rfl | (congr 1; omega) | go_num, HB2.out⟩, by simp [intOf]; omega⟩
      have g1 : (t.text.toList == [91]) = false := by simpa using h1
      clear h1
      by_cases h2 : (t.text.toList == [123]) = true
      · have HO : Hid (opn t.text y = y + 1) := by show _ = _; unfold opn startsB; simp [g0, g1, h2]
        go_wp2
        exact ⟨⟨k + 1, by omega, by go_num, by rw [HST.out, HO.out]; first | rfl | (simp only []; congr 1; omega) | (congr 1; omega), by rw [HST.out, HO.out]; first | rfl | (congr 1; omega) | go_num, HB2.out⟩, by simp [intOf]; omega⟩
      have g2 : (t.text.toList == [123]) = false := by simpa using h2
      clear h2
      by_cases h3 : (t.text.toList == [41]) = true
      · have HO : Hid (opn t.text y = y - 1) := by show _ = _; unfold opn startsB; simp [g0, g1, g2, h3]
        go_wp2
        exact ⟨⟨k + 1, by omega, by go_num, by rw [HST.out, HO.out]; first | rfl | (simp only []; congr 1; omega) | (congr 1; omega), by rw [HST.out, HO.out]; first | rfl | (congr 1; omega) | go_num, HB2.out⟩, by simp [intOf]; omega⟩
      have g3 : (t.text.toList == [41]) = false := by simpa using h3
      clear h3
      by_cases h4 : (t.text.toList == [93]) = true
      · have HO : Hid (opn t.text y = y - 1) := by show _ = _; unfold opn startsB; simp [g0, g1, g2, g3, h4]
        go_wp2
        exact ⟨⟨k + 1, by omega, by go_num, by rw [HST.out, HO.out]; first | rfl | (simp only []; congr 1; omega) | (congr 1; omega), by rw [HST.out, HO.out]; first | rfl | (congr 1; omega) | go_num, HB2.out⟩, by simp [intOf]; omega⟩
      have g4 : (t.text.toList == [93]) = false := by simpa using h4
      clear h4
      by_cases h5 : (t.text.toList == [125]) = true
      · have HO : Hid (opn t.text y = y - 1) := by show _ = _; unfold opn startsB; simp [g0, g1, g2, g3, g4, h5]
        go_wp2
        exact ⟨⟨k + 1, by omega, by go_num, by rw [HST.out, HO.out]; first | rfl | (simp only []; congr 1; omega) | (congr 1; omega), by rw [HST.out, HO.out]; first | rfl | (congr 1; omega) | go_num, HB2.out⟩, by simp [intOf]; omega⟩
      have g5 : (t.text.toList == [125]) = false := by simpa using h5
      clear h5
      have HO : Hid (opn t.text y = y) := by show _ = _; unfold opn startsB; simp [g0, g1, g2, g3, g4, g5]
      go_wp2
      exact ⟨⟨k + 1, by omega, by go_num, by rw [HST.out, HO.out]; first | rfl | (congr 1; omega), by rw [HST.out, HO.out], HB2.out⟩, by simp [intOf]; omega⟩
    · obtain rfl : k = toks.length := by omega
      go_wp2
      go_ret
      exact ⟨rfl, HB.out⟩
end Go.Proofs.YtpdndpajobfhmabGreatDoor
