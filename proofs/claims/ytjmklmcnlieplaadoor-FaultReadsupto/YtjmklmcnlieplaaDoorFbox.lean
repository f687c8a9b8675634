/- Boxes of run-time errors. -/
import Derived.Test.YtjmklmcnlieplaaDoorFlt
import Derived.Test.YtjmklmcnlieplaaDoorSteady
namespace Go.Proofs.YtjmklmcnlieplaaDoor
open Go.ChangeShapes Go.WideShapes Go.ChangeAt Go.RowKit
theorem box4 {w : World} {b : Nat} {c0 c1 c2 c3 : Value} {t : TypeId} (h : w.heap[b]? = some (.cells #[c0, c1, c2, c3] t (0, 0))) :
    (w.cell? ⟨b, 0, none⟩ = some c0 ∧ w.cell? ⟨b, 1, none⟩ = some c1 ∧ w.cell? ⟨b, 2, none⟩ = some c2 ∧ w.cell? ⟨b, 3, none⟩ = some c3) ∧ w.frozen? ⟨b, 0, none⟩ = false ∧ w.frozen? ⟨b, 1, none⟩ = false ∧ w.frozen? ⟨b, 2, none⟩ = false ∧ w.frozen? ⟨b, 3, none⟩ = false := by
  simp [World.cell?, World.frozen?, h]
theorem below_up {w u : World} {o : Obj} (hb : Below (w.alloc o).heap.size (w.alloc o) u) : Below w.heap.size w u := ((Below.refl _ _).alloc (Nat.le_refl _) _).trans (hb.mono (by simp))
/-- What a box holds stays. -/
theorem box_stays {w u : World} {o : Obj} (hb : Below (w.alloc o).heap.size (w.alloc o) u) : u.heap[w.heap.size]? = some o := by
  rw [hb.block _ (by simp)]; show (w.heap.push o)[w.heap.size]? = some o; exact Array.getElem?_push_size
end Go.Proofs.YtjmklmcnlieplaaDoor
