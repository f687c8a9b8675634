/- The reference's plain value. -/
import Derived.Test.YtjfmhppgjhgdaabDoorVused
namespace Go.Proofs.YtjfmhppgjhgdaabDoor
open Go.ChangeShapes Go.WideShapes Go.ChangeAt Go.RowKit
set_option maxRecDepth 100000
set_option linter.unusedSimpArgs false
set_option linter.unusedVariables false

theorem below3 (w : World) (o1 o2 o3 : Obj) : Below w.heap.size w (((w.alloc o1).alloc o2).alloc o3) := (below2 w o1 o2).alloc (by simp <;> omega) _
theorem three_boxes {w w1 : World} {o1 o2 o3 : Obj} (hb : Below (((w.alloc o1).alloc o2).alloc o3).heap.size (((w.alloc o1).alloc o2).alloc o3) w1) : w1.heap[w.heap.size]? = some o1 ∧ w1.heap[w.heap.size + 1]? = some o2 ∧ w1.heap[w.heap.size + 2]? = some o3 ∧ w.heap.size + 2 < w1.heap.size ∧ Below w.heap.size w w1 := by
  have hs := hb.size
  simp at hs
  refine ⟨?_, ?_, ?_, by omega, ?_⟩
  · rw [hb.block _ (by simp <;> omega)]; show (((w.heap.push o1).push o2).push o3)[w.heap.size]? = some o1; rw [Array.getElem?_push_lt (by simp <;> omega), Array.getElem_push_lt (by simp), Array.getElem_push_eq]
  · rw [hb.block _ (by simp <;> omega)]; show (((w.heap.push o1).push o2).push o3)[w.heap.size + 1]? = some o2; have e : (w.heap.push o1).size = w.heap.size + 1 := by simp
    rw [Array.getElem?_push_lt (by simp)]
    congr 1
    simp only [← e]
    rw [Array.getElem_push_eq]
  · rw [hb.block _ (by simp)]; show (((w.heap.push o1).push o2).push o3)[w.heap.size + 2]? = some o3; have e : ((w.heap.push o1).push o2).size = w.heap.size + 2 := by simp
    rw [← e, Array.getElem?_push_size]
  · exact (below3 w o1 o2 o3).trans (hb.mono (by simp <;> omega))
end Go.Proofs.YtjfmhppgjhgdaabDoor
