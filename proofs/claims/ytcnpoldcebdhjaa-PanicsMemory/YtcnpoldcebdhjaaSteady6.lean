/- The joint law's fact for regions that turn memory of one's own: all at B or above. -/
import Derived.Test.YtcnpoldcebdhjaaSteady5
namespace Go.Proofs.Ytcnpoldcebdhjaa
open Go.RowKit
set_option linter.unusedSimpArgs false
/-- Memory below B stays; each slot that is done, and not spent yet, bears what it should; and what is said of memory besides. -/
structure JB (l : List (Value → World → Prop)) (sp : Nat → Nat) (X : (Nat → Bool) → (Nat → Value) → World → Prop) (B : Nat) (w : World) (d : Nat → Bool) (f : Nat → Value) (u : World) : Prop where
  up : Below B w u
  low : B ≤ w.heap.size
  none : d 99 = false
  slots : ∀ i, d i = true → d (sp i) = false → atR l i (f i) u
  more : X d f u
section
variable {l : List (Value → World → Prop)} {sp : Nat → Nat} {X : (Nat → Bool) → (Nat → Value) → World → Prop} {B : Nat} {w : World} {d : Nat → Bool} {f : Nat → Value} {u u' : World}
theorem JB.step (h : JB l sp X B w d f u) {i : Nat} {v : Value} (hi : i ≠ 99) (hb : Below B u u') (hs : ∀ j, j ≠ i → sp j ≠ i → d j = true → d (sp j) = false → atR l j (f j) u → atR l j (f j) u') (hv : atR l i v u') (hX : X (updB d i) (upd f i v) u') : JB l sp X B w (updB d i) (upd f i v) u' := by
  refine ⟨h.up.trans hb, h.low, by simp only [updB]; rw [if_neg (Ne.symm hi)]; exact h.none, fun j hj hp => ?_, hX⟩
  by_cases hji : j = i
  · subst hji; simp only [upd, if_true]; exact hv
  · simp only [upd, if_neg hji]
    simp only [updB, if_neg hji] at hj
    by_cases hpi : sp j = i
    · simp [updB, hpi] at hp
    · simp only [updB, if_neg hpi] at hp
      exact hs j hji hpi hj hp (h.slots j hj hp)
theorem JB.lo (h : JB l sp X B w d f u) : B ≤ u.heap.size := Nat.le_trans h.low h.up.size
theorem JB.grow (hl : AllStab l) (h : JB l sp X B w d f u) {i : Nat} {v : Value} (hi : i ≠ 99) (hb : Below u.heap.size u u') (hv : atR l i v u') (hX : X (updB d i) (upd f i v) u') : JB l sp X B w (updB d i) (upd f i v) u' :=
  h.step hi (hb.mono h.lo) (fun j _ _ _ _ h2 => atR_stab hl j _ _ _ hb h2) hv hX
/-- What a slot holds that is not spent. -/
theorem JB.at (h : JB l sp X B w d f u) (i : Nat) (hd : d i = true) (hs : d (sp i) = false) : atR l i (f i) u := h.slots i hd hs
end
end Go.Proofs.Ytcnpoldcebdhjaa
