/- Tokens that came in, copied. -/
import Derived.Test.YtljdfaoplenloaaDoorTcame
import Derived.Test.YtljdfaoplenloaaDoorScn
import Derived.Laws.AppendOwnNone
namespace Go.Proofs.YtljdfaoplenloaaDoor
open Go.ChangeShapes Go.WideShapes Go.ChangeAt Go.RowKit
set_option maxRecDepth 100000
set_option linter.unusedSimpArgs false
set_option linter.unusedVariables false

/-- A copy of tokens that came in: append to nothing. -/
theorem tcopy {w : World} {v : Value} {l : List Tj} {ops : Array Oper} {rest : List Oper} {o : Oper} {a : Act} {Q : Exit → Act → World → Prop} (hgd : o.guard = none) (s x : Operand)
    (ho : o.op = .call { callee := .builtin .append, args := #[s, x], argTypes := #[22, 22] }) (hs : a.eval s = .slice none 0 0) (hx : a.eval x = v)
    (hC : TCame w v l) (hN : l.length * 40 ≤ 140737488355328)
    (h : ∀ v' w', TLies w' v' l → Below w.heap.size w w' → wpList Tryd.prog ops Q rest (a.put o.dst v') w') : wpList Tryd.prog ops Q (o :: rest) a w := by
  obtain ⟨i0, hi, hz0, hz1, hz2⟩ := info_parts Tryd.infoTok
  rcases hC with ⟨rfl, rfl⟩ | ⟨ad, cap, rfl, h2, h3, h4⟩
  · refine wpList_append_own_none hgd s x 22 ho w.heap.size 33 i0 4 Tryd.underlying22 hi (.slice none 0 0) 0 [] hs (World.ownsRow_nil _ _ _ _) hx (h _ _ ⟨none, 0, rfl, fun h => absurd rfl h⟩ (Below.refl _ _))
  · refine wpList_append_own _ hgd s x 22 ho w.heap.size 33 i0 _ 4 40 Tryd.underlying22 hi hz0 hz1 hz2 rfl (by decide) (.slice none 0 0) 0 [] hs (World.ownsRow_nil _ _ _ _) ad l.length cap (jcells l) hx (jcells_len l) h4 (jcells_one l) ?_ ?_ (Nat.le_refl _) ?_
    · unfold maxLen; omega
    · omega
    · intro v' w' hown hgrow _
      rw [Nat.zero_add, List.nil_append] at hown
      exact h v' w' (tlies_row hown) ((Below.refl _ _).grown hgrow (Nat.le_refl _) (fun q hq => by cases hq))
theorem TCame.shape {w : World} {v : Value} {l : List Tj} (h : TCame w v l) : ∃ ao cap, v = .slice ao l.length cap := by
  rcases h with ⟨h, rfl⟩ | ⟨a, cap, h, _⟩
  · exact ⟨none, 0, h⟩
  · exact ⟨_, _, h⟩
end Go.Proofs.YtljdfaoplenloaaDoor
