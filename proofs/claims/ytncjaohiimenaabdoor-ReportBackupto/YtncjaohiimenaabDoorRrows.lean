/- A crash has just one line for each panic. -/
import Derived.Test.YtncjaohiimenaabDoorRcrash
namespace Go.Proofs.YtncjaohiimenaabDoor
open Go.ChangeShapes Go.WideShapes Go.ChangeAt Go.RowKit
set_option maxRecDepth 100000
set_option linter.unusedSimpArgs false
set_option linter.unusedVariables false
/-- No line's end. -/
def noEnd (l : List UInt8) : Prop := ∀ c ∈ l, c ≠ 10
theorem noEnd_app {a b : List UInt8} (ha : noEnd a) (hb : noEnd b) : noEnd (a ++ b) := fun c hc => by
  rcases List.mem_append.1 hc with h | h
  · exact ha c h
  · exact hb c h
theorem noEnd_piece (c : UInt8) : noEnd (tPiece c) := by
  have h : ∀ n, n < 256 → ∀ x ∈ tPiece (UInt8.ofNat n), x ≠ 10 := by decide +kernel
  have := h c.toNat c.toNat_lt
  rwa [UInt8.ofNat_toNat] at this
theorem noEnd_byte (c : UInt8) : tByte c ≠ 10 := by
  have h : ∀ n, n < 256 → tByte (UInt8.ofNat n) ≠ 10 := by decide +kernel
  have := h c.toNat c.toNat_lt
  rwa [UInt8.ofNat_toNat] at this
theorem noEnd_dec (u : Nat) : noEnd (Lib.decDigits u) := by
  have hd : ∀ d, d < 10 → UInt8.ofNat (48 + d) ≠ 10 := by decide
  induction u using Nat.strongRecOn with
  | _ u ih =>
    rw [Lib.decDigits]
    split
    · rename_i h
      intro c hc
      have h1 : c = UInt8.ofNat (48 + u) := List.mem_singleton.1 hc
      rw [h1]
      exact hd u h
    · rename_i h
      refine noEnd_app (ih (u / 10) (by omega)) fun c hc => ?_
      have h1 : c = UInt8.ofNat (48 + u % 10) := List.mem_singleton.1 hc
      rw [h1]
      exact hd (u % 10) (Nat.mod_lt _ (by decide))
theorem noEnd_itoa (n : Int) : noEnd (Lib.itoa n) := by
  unfold Lib.itoa
  split
  · intro c hc
    rcases List.mem_cons.1 hc with rfl | hc
    · decide
    · exact noEnd_dec _ c hc
  · exact noEnd_dec _
theorem noEnd_text (x : Vv) : noEnd (textV x).data.toList := by
  unfold textV
  split
  · exact noEnd_itoa x.n
  · split
    · show noEnd (tQuote x.s.data.toList)
      unfold tQuote
      intro c hc
      rcases List.mem_cons.1 hc with rfl | hc
      · decide
      · rcases List.mem_append.1 hc with hc | hc
        · unfold tBody at hc
          obtain ⟨y, hy, hyc⟩ := List.mem_flatMap.1 hc
          exact noEnd_piece y c hyc
        · simp at hc; subst hc; decide
    · split
      · show noEnd (tPlain x.s.data.toList)
        intro c hc
        obtain ⟨y, hy, rfl⟩ := List.mem_map.1 hc
        exact noEnd_byte y
      · intro c hc
        have : c = 63 := by simpa using hc
        subst this; decide
theorem noEnd_line (k : Nat) (x : Vv) (b : Bool) : ∃ a, lineL k x b = a ++ [10] ∧ noEnd a := by
  refine ⟨leadL k ++ (textV x).data.toList ++ (if b then markB.data.toList else []), rfl, noEnd_app (noEnd_app ?_ (noEnd_text x)) ?_⟩
  · unfold leadL; split <;> (intro c hc; revert hc; revert c; decide)
  · split
    · intro c hc; revert hc; revert c; decide
    · intro c hc; cases hc
def cnt (l : List UInt8) : Nat := (l.filter (fun c => c == 10)).length
theorem cnt_app (a b : List UInt8) : cnt (a ++ b) = cnt a + cnt b := by simp [cnt]
theorem cnt_none {a : List UInt8} (h : noEnd a) : cnt a = 0 := by
  unfold cnt
  rw [List.length_eq_zero_iff, List.filter_eq_nil_iff]
  intro c hc
  simpa using h c hc
theorem cnt_crash (es : List Pe) : ∀ k, k ≤ es.length → cnt (crashL es k) = k
  | 0, _ => rfl
  | k + 1, h => by
    have ih := cnt_crash es k (by omega)
    have he : es[k]? = some es[k] := List.getElem?_eq_getElem (by omega)
    rw [crashL_succ he]
    obtain ⟨a, ha, hn⟩ := noEnd_line k es[k].x es[k].rc
    rw [ha, cnt_app, cnt_app, cnt_none hn, ih]
    rfl
theorem last_crash (es : List Pe) (h : 0 < es.length) : ∃ a, crashL es es.length = a ++ [10] := by
  obtain ⟨k, hk⟩ : ∃ k, es.length = k + 1 := ⟨es.length - 1, by omega⟩
  rw [hk]
  have he : es[k]? = some es[k] := List.getElem?_eq_getElem (by omega)
  rw [crashL_succ he]
  obtain ⟨a, ha, hn⟩ := noEnd_line k es[k].x es[k].rc
  exact ⟨crashL es k ++ a, by rw [ha, List.append_assoc]⟩
theorem cnt_take {l : List UInt8} {k : Nat} {c : UInt8} (h : l[k]? = some c) : cnt (l.take (k + 1)) = cnt (l.take k) + if (c.toNat : Int) = 10 then 1 else 0 := by
  rw [take_at h, cnt_app]
  congr 1
  unfold cnt
  by_cases hc : (c.toNat : Int) = 10
  · have : c = 10 := by apply UInt8.toNat.inj; show c.toNat = 10; omega
    subst this; rfl
  · rw [if_neg hc]
    have : c ≠ 10 := by rintro rfl; exact hc rfl
    simp [this]
theorem cnt_le (l : List UInt8) : cnt l ≤ l.length := List.length_filter_le _ _
end Go.Proofs.YtncjaohiimenaabDoor
