/- A value without what its kind does not use: a copy of it. -/
import Derived.Test.YtjfmhppgjhgdaaaDoorVused
namespace Go.Proofs.YtjfmhppgjhgdaaaDoor
open Go.ChangeShapes Go.WideShapes Go.ChangeAt Go.RowKit
set_option maxRecDepth 100000
set_option linter.unusedSimpArgs false
set_option linter.unusedVariables false

theorem stored4 {w1 w2 : World} {b : Nat} {c0 c1 c2 c3 d0 d1 d2 d3 : Value} (h0 : w1.cell? ⟨b, 0, none⟩ = some c0) (h1 : w1.cell? ⟨b, 1, none⟩ = some c1) (h2 : w1.cell? ⟨b, 2, none⟩ = some c2) (h3 : w1.cell? ⟨b, 3, none⟩ = some c3)
    (hf : ∀ o, w1.frozen? ⟨b, o, none⟩ = false) (hz : b < w1.heap.size)
    (hb : Below ((((w1.setCell ⟨b, 0, none⟩ d0).setCell ⟨b, 1, none⟩ d1).setCell ⟨b, 2, none⟩ d2).setCell ⟨b, 3, none⟩ d3).heap.size ((((w1.setCell ⟨b, 0, none⟩ d0).setCell ⟨b, 1, none⟩ d1).setCell ⟨b, 2, none⟩ d2).setCell ⟨b, 3, none⟩ d3) w2) :
    (w2.cell? ⟨b, 0, none⟩ = some d0 ∧ w2.cell? ⟨b, 1, none⟩ = some d1 ∧ w2.cell? ⟨b, 2, none⟩ = some d2 ∧ w2.cell? ⟨b, 3, none⟩ = some d3) ∧ (∀ o, w2.frozen? ⟨b, o, none⟩ = false) ∧ (∀ b' o, b' ≠ b → b' < w1.heap.size → w2.cell? ⟨b', o, none⟩ = w1.cell? ⟨b', o, none⟩ ∧ w2.frozen? ⟨b', o, none⟩ = w1.frozen? ⟨b', o, none⟩) ∧ w1.heap.size ≤ w2.heap.size ∧ (∀ B w, Below B w w1 → B ≤ b → Below B w w2) := by
  have hsz : ((((w1.setCell ⟨b, 0, none⟩ d0).setCell ⟨b, 1, none⟩ d1).setCell ⟨b, 2, none⟩ d2).setCell ⟨b, 3, none⟩ d3).heap.size = w1.heap.size := by simp [World.setCell]
  obtain ⟨hc, hfz⟩ := bcell hb
  rw [hsz] at hc hfz
  have hs := hb.size
  rw [hsz] at hs
  refine ⟨⟨?_, ?_, ?_, ?_⟩, ?_, ?_, hs, ?_⟩
  · rw [hc _ _ hz]; simp [go_sem, h0, h1, h2, h3]
  · rw [hc _ _ hz]; simp [go_sem, h0, h1, h2, h3]
  · rw [hc _ _ hz]; simp [go_sem, h0, h1, h2, h3]
  · rw [hc _ _ hz]; simp [go_sem, h0, h1, h2, h3]
  · intro o; rw [hfz _ _ hz]; simp [go_sem, hf]
  · intro b' o hne hlt
    rw [hc _ _ hlt, hfz _ _ hlt]
    simp [go_sem, Ne.symm hne]
  · intro B w hB hle
    exact ((((hB.setCell hle _).setCell hle _).setCell hle _).setCell hle _).trans (hb.mono (by rw [hsz]; omega))
theorem box4f {w : World} {b : Nat} {c0 c1 c2 c3 : Value} {t : TypeId} (h : w.heap[b]? = some (.cells #[c0, c1, c2, c3] t (0, 0))) : ∀ o, w.frozen? ⟨b, o, none⟩ = false := by
  intro o; simp [World.frozen?, h]
theorem plain_sized {x : Vv} (h : VIn x) : (plainV x).l.length * 8 ≤ 140737488351232 := by
  have := h.sz
  unfold plainV
  split
  · simp
  · split
    · simp
    · split
      · simp
      · split
        · simp
        · split
          · exact this
          · simp
theorem plain_lies {x : Vv} {L : Value} {w : World} (h : ILies w L x.l) : ILies w (plainL x L) (plainV x).l := by
  unfold plainV plainL
  by_cases h6 : x.kind = 6
  · simp [h6]; exact h
  · rw [if_neg h6]
    have : ∀ l : List Int, l = [] → ILies w (.slice none 0 0) l := fun l hl => .inl ⟨rfl, hl⟩
    apply this
    simp only [if_neg h6]
    split
    · rfl
    · split
      · rfl
      · split
        · rfl
        · split <;> rfl
end Go.Proofs.YtjfmhppgjhgdaaaDoor
