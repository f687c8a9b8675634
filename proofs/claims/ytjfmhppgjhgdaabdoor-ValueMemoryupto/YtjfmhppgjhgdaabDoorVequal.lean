/- Whether two lists of numbers, and two values, are alike. -/
import Derived.Test.YtjfmhppgjhgdaabDoorVplain
import Derived.Test.YtjfmhppgjhgdaabDoorVplain2
namespace Go.Proofs.YtjfmhppgjhgdaabDoor
open Go.ChangeShapes Go.WideShapes Go.ChangeAt Go.RowKit
set_option maxRecDepth 100000
set_option linter.unusedSimpArgs false
set_option linter.unusedVariables false

theorem below_dn (w : World) (n : Nat) : Below w.heap.size w (w.drewN n) := ⟨rfl, rfl, rfl, Nat.le_refl _, fun _ _ => rfl⟩
theorem list_split (l m : List Int) (k : Nat) (hl : k < l.length) (hm : k < m.length) (h : l.take k = m.take k) : (l == m) = (decide (l[k] = m[k]) && (l.drop (k + 1) == m.drop (k + 1))) := by
  have e1 : l = l.take k ++ l[k] :: l.drop (k + 1) := by rw [← List.drop_eq_getElem_cons hl, List.take_append_drop]
  have e2 : m = m.take k ++ m[k] :: m.drop (k + 1) := by rw [← List.drop_eq_getElem_cons hm, List.take_append_drop]
  rw [Bool.eq_iff_iff]
  simp only [beq_iff_eq, Bool.and_eq_true, decide_eq_true_eq]
  constructor
  · intro e; subst e; exact ⟨rfl, rfl⟩
  · rintro ⟨h1, h2⟩
    rw [e1, e2, h, h1, h2]
theorem ILies.at {w : World} {v : Value} {l : List Int} (h : ILies w v l) {k : Nat} (hk : k < l.length) : ∃ b off cap, v = .slice (some ⟨b, off, none⟩) l.length cap ∧ w.cell? ⟨b, off + k, none⟩ = some (.int .i64 l[k]) := by
  rcases h with ⟨_, h⟩ | ⟨⟨b, off, spot⟩, cap, h1, h2, h2', h3, h4⟩
  · subst h; simp at hk
  · have := h3 (by rintro rfl; simp at hk)
    simp only at this
    subst this
    refine ⟨b, off, cap, h1, ?_⟩
    have := h4 k l[k] (List.getElem?_eq_getElem hk)
    rwa [add_plain] at this
theorem ILies.nonempty {w : World} {v : Value} {l : List Int} (h : ILies w v l) (hne : l ≠ []) : ∃ b off cap, v = .slice (some ⟨b, off, none⟩) l.length cap ∧ ∀ j, j < l.length → w.cell? ⟨b, off + j, none⟩ = some (.int .i64 (l.getD j 0)) := by
  rcases h with ⟨_, h⟩ | ⟨⟨b, off, spot⟩, cap, h1, h2, h2', h3, h4⟩
  · exact absurd h hne
  · have := h3 hne
    simp only at this
    subst this
    refine ⟨b, off, cap, h1, fun j hj => ?_⟩
    have := h4 j (l.getD j 0) (by simp [List.getD, List.getElem?_eq_getElem hj])
    rwa [add_plain] at this
theorem own_ints (a b : Value) (l m : List Int) (w : World) (ha : ILies w a l) (hb : ILies w b m) (hs : l.length ≤ 140737488351232) (hs2 : m.length ≤ 140737488351232) :
    Calls Tryd.prog 22 #[a, b] w fun e w' => e = .returned (.bool (l == m)) ∧ ∃ n, w' = w.drewN n := by
  by_cases hlen : l.length = m.length
  · by_cases hl : l = []
    · have hm : m = [] := List.eq_nil_of_length_eq_zero (by rw [← hlen, hl]; rfl)
      obtain ⟨ao, ca, rfl⟩ := ha.shape
      obtain ⟨bo, cb, rfl⟩ := hb.shape
      subst hl
      subst hm
      refine (Tryd.slices_Equal_int_empty ao bo ca 0 cb w (by decide)).mono ?_
      rintro e w1 ⟨rfl, rfl⟩
      exact ⟨rfl, 0, rfl⟩
    · have hm : m ≠ [] := fun h => hl (List.eq_nil_of_length_eq_zero (by rw [hlen, h]; rfl))
      obtain ⟨b1, o1, c1, rfl, x1⟩ := ha.nonempty hl
      obtain ⟨b2, o2, c2, rfl, x2⟩ := hb.nonempty hm
      refine (Tryd.slices_Equal_int b1 o1 l.length c1 b2 o2 m.length c2 l m w (Nat.le_refl _) (Nat.le_refl _) (by omega) (by omega) x1 x2).mono ?_
      rintro e w1 ⟨rfl, q, rfl⟩
      rw [List.take_length, List.take_length]
      exact ⟨rfl, q, rfl⟩
  · obtain ⟨ao, ca, rfl⟩ := ha.shape
    obtain ⟨bo, cb, rfl⟩ := hb.shape
    have e : (l == m) = false := by
      rw [beq_eq_false_iff_ne]
      intro h; exact hlen (by rw [h])
    rw [e]
    refine (Tryd.slices_Equal_int_lens ao bo l.length ca m.length cb w hlen).mono ?_
    rintro e w1 ⟨rfl, rfl⟩
    exact ⟨rfl, 0, rfl⟩
def eqV (x y : Vv) : Bool := decide (x.kind = y.kind) && (decide (x.n = y.n) && ((x.s.toList == y.s.toList) && (x.l == y.l)))
end Go.Proofs.YtjfmhppgjhgdaabDoor
