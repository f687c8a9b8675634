/- Whether two lists of numbers, and two values, are alike. -/
import Derived.Test.YtncjaohiimenaabDoorVown
import Derived.BigQuiet
import Derived.Lib.Bytealg
import Derived.Lib.Small
namespace Go.Proofs.YtncjaohiimenaabDoor
open Go.ChangeShapes Go.WideShapes Go.ChangeAt Go.RowKit
set_option maxRecDepth 100000
set_option linter.unusedSimpArgs false
set_option linter.unusedVariables false

theorem below_dn (w : World) (n : Nat) : Below w.heap.size w (w.drewN n) := ⟨rfl, rfl, rfl, Nat.le_refl _, fun _ _ => rfl⟩
theorem list_split (l m : List Int) (k : Nat) (hl : k < l.length) (hm : k < m.length) (h : l.take k = m.take k) : (l == m) = (decide (l[k] = m[k]) && (l.drop (k + 1) == m.drop (k + 1))) := by
  have e1 : l = l.take k ++ l[k] :: l.drop (k + 1) := by rw [← List.drop_eq_getElem_cons hl, List.take_append_drop]
  have e2 : m = m.take k ++ m[k] :: m.drop (k + 1) := by rw [← List.drop_eq_getElem_cons hm, List.take_append_drop]
  rw [Bool.eq_iff_iff]
  simp only [beq_iff_eq, Bool.and_eq_true, decide_eq_true_eq]
  constructor
  · intro e; subst e; exact ⟨rfl, rfl⟩
  · rintro ⟨h1, h2⟩
    rw [e1, e2, h, h1, h2]
theorem ILies.at {w : World} {v : Value} {l : List Int} (h : ILies w v l) {k : Nat} (hk : k < l.length) : ∃ b off cap, v = .slice (some ⟨b, off, none⟩) l.length cap ∧ w.cell? ⟨b, off + k, none⟩ = some (.int .i64 l[k]) := by
  rcases h with ⟨_, h⟩ | ⟨⟨b, off, spot⟩, cap, h1, h2, h2', h3, h4⟩
  · subst h; simp at hk
  · have := h3 (by rintro rfl; simp at hk)
    simp only at this
    subst this
    refine ⟨b, off, cap, h1, ?_⟩
    have := h4 k l[k] (List.getElem?_eq_getElem hk)
    rwa [add_plain] at this
theorem ILies.nonempty {w : World} {v : Value} {l : List Int} (h : ILies w v l) (hne : l ≠ []) : ∃ b off cap, v = .slice (some ⟨b, off, none⟩) l.length cap ∧ ∀ j, j < l.length → w.cell? ⟨b, off + j, none⟩ = some (.int .i64 (l.getD j 0)) := by
  rcases h with ⟨_, h⟩ | ⟨⟨b, off, spot⟩, cap, h1, h2, h2', h3, h4⟩
  · exact absurd h hne
  · have := h3 hne
    simp only at this
    subst this
    refine ⟨b, off, cap, h1, fun j hj => ?_⟩
    have := h4 j (l.getD j 0) (by simp [List.getD, List.getElem?_eq_getElem hj])
    rwa [add_plain] at this
def eqV (x y : Vv) : Bool := decide (x.kind = y.kind) && (decide (x.n = y.n) && ((x.s.toList == y.s.toList) && (x.l == y.l)))
end Go.Proofs.YtncjaohiimenaabDoor
