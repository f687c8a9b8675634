/- Contracts of the big numbers: SetInt64, NewInt, whole. -/
import Derived.Test.YtljdfaoplenloaaDoorBig2
namespace Go.Proofs.YtljdfaoplenloaaDoor
open Go.ChangeShapes Go.WideShapes Go.ChangeAt Go.RowKit
set_option maxRecDepth 100000

/-- Block b holds the whole number z. -/
def Big (w : World) (b : Nat) (z : Int) : Prop := ∃ neg v ws, IntBlock w b neg v ∧ Row w v ws ∧ Norm ws ∧ (neg = true → ws ≠ []) ∧ z = if neg then - nv ws else nv ws
theorem Row.not_int {w : World} {b : Nat} {neg : Bool} {v u : Value} {ws : List Int} (h : Row w v ws) (hi : IntBlock w b neg u) : v.ownBlock ≠ some b := by
  intro e
  rcases h.1.2 with ⟨rfl, _⟩ | ⟨g, cap, cur, rfl, _, hh, _⟩
  · cases e
  · cases e
    unfold IntBlock at hi
    rw [hi] at hh
    simp at hh
theorem Big.below {w w' : World} {b : Nat} {z : Int} (h : Big w b z) (hb : Below w.heap.size w w') : Big w' b z := by
  obtain ⟨neg, v, ws, h1, h2, h3⟩ := h
  exact ⟨neg, v, ws, (hb.block b h1.lt).trans h1, h2.below hb, h3⟩
theorem Row.grown {w w' : World} {v : Value} {ws : List Int} {r : Nat} (h : Row w v ws) (hg : w.grownBy w' (some r)) (hne : v.ownBlock ≠ some r) : Row w' v ws :=
  row_kept h fun k hk => hg.block k (h.lt k hk) (by rw [← hk]; exact hne)
/-- A number is made of a row that 'give' has got. -/
theorem big_given {w w' : World} {b : Nat} {neg : Bool} {ao : Option Addr} {n cap : Nat} {ws : List Int} {n0 : Bool} {v0 : Value} (h0 : IntBlock w b n0 v0) (hr : Row w (.slice ao n cap) ws) (hn : Norm ws)
    (hi : IntBlock w' b (neg && decide (0 < n)) (.slice ao n cap)) (hg : w.grownBy w' (some b)) : Big w' b (if neg then - nv ws else nv ws) := by
  have hl : ws.length = n := by
    rcases hr.shape with ⟨h1, h2⟩ | ⟨g, c, h1, _⟩
    · cases h1; rw [h2]; rfl
    · cases h1; rfl
  refine ⟨_, _, ws, hi, hr.grown hg (hr.not_int h0), hn, fun h e => ?_, ?_⟩
  · subst e
    simp at hl
    subst hl
    simp at h
  · cases neg
    · simp
    · by_cases hz : n = 0
      · subst hz
        have : ws = [] := List.length_eq_zero_iff.1 hl
        subst this
        simp [nv]
      · have : decide (0 < n) = true := by simp; omega
        simp [this]
/-- The shape of a row's slice, with its bounds. -/
theorem Row.slice {w : World} {v : Value} {ws : List Int} (h : Row w v ws) : ∃ ao n cap, v = .slice ao n cap ∧ n ≤ maxLen ∧ n = ws.length := by
  rcases h.shape with ⟨rfl, rfl⟩ | ⟨g, cap, rfl, h1, h2, _⟩
  · exact ⟨none, 0, 0, rfl, by unfold maxLen; omega, rfl⟩
  · exact ⟨_, _, cap, rfl, by omega, rfl⟩

theorem int_new (w : World) : IntBlock (w.alloc (.cells #[.bool false, .slice none 0 0] 74)) w.heap.size false (.slice none 0 0) := heap_alloc_new w _
end Go.Proofs.YtljdfaoplenloaaDoor
