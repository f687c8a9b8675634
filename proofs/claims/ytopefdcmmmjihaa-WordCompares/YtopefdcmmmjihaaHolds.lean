/- What panicroadref.Holds answers: the document's own answer to P1.2, by a map of slices that it makes; for all comparisons and orders. -/
import Derived.Test.YtopefdcmmmjihaaRows
import Derived.Test.YtopefdcmmmjihaaMapLit
import Derived.WalkKit
import Derived.ProofKit
import Derived.OpenShut
import Derived.Handy
namespace Go.Proofs.Ytopefdcmmmjihaa
open Go.ChangeShapes Go.WideShapes Go.ChangeAt Go.RowKit

def es0 (_ : World) : Array MapEntry := #[]
def es1 (w : World) : Array MapEntry := #[{ key := .int .i64 11, val := .slice (some ⟨w.heap.size + 1, 0, none⟩) 1 1, born := 0 }]
def es2 (w : World) : Array MapEntry := #[{ key := .int .i64 11, val := .slice (some ⟨w.heap.size + 1, 0, none⟩) 1 1, born := 0 }, { key := .int .i64 12, val := .slice (some ⟨w.heap.size + 1 + 1, 0, none⟩) 2 2, born := 1 }]
def es3 (w : World) : Array MapEntry := #[{ key := .int .i64 11, val := .slice (some ⟨w.heap.size + 1, 0, none⟩) 1 1, born := 0 }, { key := .int .i64 12, val := .slice (some ⟨w.heap.size + 1 + 1, 0, none⟩) 2 2, born := 1 }, { key := .int .i64 13, val := .slice (some ⟨w.heap.size + 1 + 1 + 1, 0, none⟩) 1 1, born := 2 }]
def es4 (w : World) : Array MapEntry := #[{ key := .int .i64 11, val := .slice (some ⟨w.heap.size + 1, 0, none⟩) 1 1, born := 0 }, { key := .int .i64 12, val := .slice (some ⟨w.heap.size + 1 + 1, 0, none⟩) 2 2, born := 1 }, { key := .int .i64 13, val := .slice (some ⟨w.heap.size + 1 + 1 + 1, 0, none⟩) 1 1, born := 2 }, { key := .int .i64 14, val := .slice (some ⟨w.heap.size + 1 + 1 + 1 + 1, 0, none⟩) 2 2, born := 3 }]
def es5 (w : World) : Array MapEntry := #[{ key := .int .i64 11, val := .slice (some ⟨w.heap.size + 1, 0, none⟩) 1 1, born := 0 }, { key := .int .i64 12, val := .slice (some ⟨w.heap.size + 1 + 1, 0, none⟩) 2 2, born := 1 }, { key := .int .i64 13, val := .slice (some ⟨w.heap.size + 1 + 1 + 1, 0, none⟩) 1 1, born := 2 }, { key := .int .i64 14, val := .slice (some ⟨w.heap.size + 1 + 1 + 1 + 1, 0, none⟩) 2 2, born := 3 }, { key := .int .i64 15, val := .slice (some ⟨w.heap.size + 1 + 1 + 1 + 1 + 1, 0, none⟩) 1 1, born := 4 }]
def es6 (w : World) : Array MapEntry := #[{ key := .int .i64 11, val := .slice (some ⟨w.heap.size + 1, 0, none⟩) 1 1, born := 0 }, { key := .int .i64 12, val := .slice (some ⟨w.heap.size + 1 + 1, 0, none⟩) 2 2, born := 1 }, { key := .int .i64 13, val := .slice (some ⟨w.heap.size + 1 + 1 + 1, 0, none⟩) 1 1, born := 2 }, { key := .int .i64 14, val := .slice (some ⟨w.heap.size + 1 + 1 + 1 + 1, 0, none⟩) 2 2, born := 3 }, { key := .int .i64 15, val := .slice (some ⟨w.heap.size + 1 + 1 + 1 + 1 + 1, 0, none⟩) 1 1, born := 4 }, { key := .int .i64 16, val := .slice (some ⟨w.heap.size + 1 + 1 + 1 + 1 + 1 + 1, 0, none⟩) 2 2, born := 5 }]
theorem ins1 (w : World) : (Instr.mapUpdate 43 (.map (some w.heap.size)) (.int .i64 11) (.slice (some ⟨w.heap.size + 1, 0, none⟩) 1 1)).run Try.prog ((w.alloc (.map (es0 w) 0)).alloc (.cells #[.int .i64 0] 3)) = .ok () ((w.alloc (.map (es1 w) 1)).alloc (.cells #[.int .i64 0] 3)) :=
  insert_new Try.underlying43 Try.underlying3 w (es0 w) 0 [.cells #[.int .i64 0] 3] 11 _ rfl
theorem ins2 (w : World) : (Instr.mapUpdate 43 (.map (some w.heap.size)) (.int .i64 12) (.slice (some ⟨w.heap.size + 1 + 1, 0, none⟩) 2 2)).run Try.prog (((w.alloc (.map (es1 w) 1)).alloc (.cells #[.int .i64 0] 3)).alloc (.cells #[.int .i64 (-1), .int .i64 1] 3)) = .ok () (((w.alloc (.map (es2 w) 2)).alloc (.cells #[.int .i64 0] 3)).alloc (.cells #[.int .i64 (-1), .int .i64 1] 3)) :=
  insert_new Try.underlying43 Try.underlying3 w (es1 w) 1 [.cells #[.int .i64 0] 3, .cells #[.int .i64 (-1), .int .i64 1] 3] 12 _ rfl
theorem ins3 (w : World) : (Instr.mapUpdate 43 (.map (some w.heap.size)) (.int .i64 13) (.slice (some ⟨w.heap.size + 1 + 1 + 1, 0, none⟩) 1 1)).run Try.prog ((((w.alloc (.map (es2 w) 2)).alloc (.cells #[.int .i64 0] 3)).alloc (.cells #[.int .i64 (-1), .int .i64 1] 3)).alloc (.cells #[.int .i64 (-1)] 3)) = .ok () ((((w.alloc (.map (es3 w) 3)).alloc (.cells #[.int .i64 0] 3)).alloc (.cells #[.int .i64 (-1), .int .i64 1] 3)).alloc (.cells #[.int .i64 (-1)] 3)) :=
  insert_new Try.underlying43 Try.underlying3 w (es2 w) 2 [.cells #[.int .i64 0] 3, .cells #[.int .i64 (-1), .int .i64 1] 3, .cells #[.int .i64 (-1)] 3] 13 _ rfl
theorem ins4 (w : World) : (Instr.mapUpdate 43 (.map (some w.heap.size)) (.int .i64 14) (.slice (some ⟨w.heap.size + 1 + 1 + 1 + 1, 0, none⟩) 2 2)).run Try.prog (((((w.alloc (.map (es3 w) 3)).alloc (.cells #[.int .i64 0] 3)).alloc (.cells #[.int .i64 (-1), .int .i64 1] 3)).alloc (.cells #[.int .i64 (-1)] 3)).alloc (.cells #[.int .i64 (-1), .int .i64 0] 3)) = .ok () (((((w.alloc (.map (es4 w) 4)).alloc (.cells #[.int .i64 0] 3)).alloc (.cells #[.int .i64 (-1), .int .i64 1] 3)).alloc (.cells #[.int .i64 (-1)] 3)).alloc (.cells #[.int .i64 (-1), .int .i64 0] 3)) :=
  insert_new Try.underlying43 Try.underlying3 w (es3 w) 3 [.cells #[.int .i64 0] 3, .cells #[.int .i64 (-1), .int .i64 1] 3, .cells #[.int .i64 (-1)] 3, .cells #[.int .i64 (-1), .int .i64 0] 3] 14 _ rfl
theorem ins5 (w : World) : (Instr.mapUpdate 43 (.map (some w.heap.size)) (.int .i64 15) (.slice (some ⟨w.heap.size + 1 + 1 + 1 + 1 + 1, 0, none⟩) 1 1)).run Try.prog ((((((w.alloc (.map (es4 w) 4)).alloc (.cells #[.int .i64 0] 3)).alloc (.cells #[.int .i64 (-1), .int .i64 1] 3)).alloc (.cells #[.int .i64 (-1)] 3)).alloc (.cells #[.int .i64 (-1), .int .i64 0] 3)).alloc (.cells #[.int .i64 1] 3)) = .ok () ((((((w.alloc (.map (es5 w) 5)).alloc (.cells #[.int .i64 0] 3)).alloc (.cells #[.int .i64 (-1), .int .i64 1] 3)).alloc (.cells #[.int .i64 (-1)] 3)).alloc (.cells #[.int .i64 (-1), .int .i64 0] 3)).alloc (.cells #[.int .i64 1] 3)) :=
  insert_new Try.underlying43 Try.underlying3 w (es4 w) 4 [.cells #[.int .i64 0] 3, .cells #[.int .i64 (-1), .int .i64 1] 3, .cells #[.int .i64 (-1)] 3, .cells #[.int .i64 (-1), .int .i64 0] 3, .cells #[.int .i64 1] 3] 15 _ rfl
theorem ins6 (w : World) : (Instr.mapUpdate 43 (.map (some w.heap.size)) (.int .i64 16) (.slice (some ⟨w.heap.size + 1 + 1 + 1 + 1 + 1 + 1, 0, none⟩) 2 2)).run Try.prog (((((((w.alloc (.map (es5 w) 5)).alloc (.cells #[.int .i64 0] 3)).alloc (.cells #[.int .i64 (-1), .int .i64 1] 3)).alloc (.cells #[.int .i64 (-1)] 3)).alloc (.cells #[.int .i64 (-1), .int .i64 0] 3)).alloc (.cells #[.int .i64 1] 3)).alloc (.cells #[.int .i64 0, .int .i64 1] 3)) = .ok () (((((((w.alloc (.map (es6 w) 6)).alloc (.cells #[.int .i64 0] 3)).alloc (.cells #[.int .i64 (-1), .int .i64 1] 3)).alloc (.cells #[.int .i64 (-1)] 3)).alloc (.cells #[.int .i64 (-1), .int .i64 0] 3)).alloc (.cells #[.int .i64 1] 3)).alloc (.cells #[.int .i64 0, .int .i64 1] 3)) :=
  insert_new Try.underlying43 Try.underlying3 w (es5 w) 5 [.cells #[.int .i64 0] 3, .cells #[.int .i64 (-1), .int .i64 1] 3, .cells #[.int .i64 (-1)] 3, .cells #[.int .i64 (-1), .int .i64 0] 3, .cells #[.int .i64 1] 3, .cells #[.int .i64 0, .int .i64 1] 3] 16 _ rfl
theorem look11 (w : World) : (Instr.lookup 43 (.map (some w.heap.size)) (.int .i64 11) true).run Try.prog (((((((w.alloc (.map (es6 w) 6)).alloc (.cells #[.int .i64 0] 3)).alloc (.cells #[.int .i64 (-1), .int .i64 1] 3)).alloc (.cells #[.int .i64 (-1)] 3)).alloc (.cells #[.int .i64 (-1), .int .i64 0] 3)).alloc (.cells #[.int .i64 1] 3)).alloc (.cells #[.int .i64 0, .int .i64 1] 3)) = .ok (.tuple #[.slice (some ⟨w.heap.size + 1, 0, none⟩) 1 1, .bool true]) (((((((w.alloc (.map (es6 w) 6)).alloc (.cells #[.int .i64 0] 3)).alloc (.cells #[.int .i64 (-1), .int .i64 1] 3)).alloc (.cells #[.int .i64 (-1)] 3)).alloc (.cells #[.int .i64 (-1), .int .i64 0] 3)).alloc (.cells #[.int .i64 1] 3)).alloc (.cells #[.int .i64 0, .int .i64 1] 3)) :=
  look_found Try.underlying43 Try.underlying3 w (es6 w) 6 [.cells #[.int .i64 0] 3, .cells #[.int .i64 (-1), .int .i64 1] 3, .cells #[.int .i64 (-1)] 3, .cells #[.int .i64 (-1), .int .i64 0] 3, .cells #[.int .i64 1] 3, .cells #[.int .i64 0, .int .i64 1] 3] 11 (i := 0) rfl
theorem look12 (w : World) : (Instr.lookup 43 (.map (some w.heap.size)) (.int .i64 12) true).run Try.prog (((((((w.alloc (.map (es6 w) 6)).alloc (.cells #[.int .i64 0] 3)).alloc (.cells #[.int .i64 (-1), .int .i64 1] 3)).alloc (.cells #[.int .i64 (-1)] 3)).alloc (.cells #[.int .i64 (-1), .int .i64 0] 3)).alloc (.cells #[.int .i64 1] 3)).alloc (.cells #[.int .i64 0, .int .i64 1] 3)) = .ok (.tuple #[.slice (some ⟨w.heap.size + 1 + 1, 0, none⟩) 2 2, .bool true]) (((((((w.alloc (.map (es6 w) 6)).alloc (.cells #[.int .i64 0] 3)).alloc (.cells #[.int .i64 (-1), .int .i64 1] 3)).alloc (.cells #[.int .i64 (-1)] 3)).alloc (.cells #[.int .i64 (-1), .int .i64 0] 3)).alloc (.cells #[.int .i64 1] 3)).alloc (.cells #[.int .i64 0, .int .i64 1] 3)) :=
  look_found Try.underlying43 Try.underlying3 w (es6 w) 6 [.cells #[.int .i64 0] 3, .cells #[.int .i64 (-1), .int .i64 1] 3, .cells #[.int .i64 (-1)] 3, .cells #[.int .i64 (-1), .int .i64 0] 3, .cells #[.int .i64 1] 3, .cells #[.int .i64 0, .int .i64 1] 3] 12 (i := 1) rfl
theorem look13 (w : World) : (Instr.lookup 43 (.map (some w.heap.size)) (.int .i64 13) true).run Try.prog (((((((w.alloc (.map (es6 w) 6)).alloc (.cells #[.int .i64 0] 3)).alloc (.cells #[.int .i64 (-1), .int .i64 1] 3)).alloc (.cells #[.int .i64 (-1)] 3)).alloc (.cells #[.int .i64 (-1), .int .i64 0] 3)).alloc (.cells #[.int .i64 1] 3)).alloc (.cells #[.int .i64 0, .int .i64 1] 3)) = .ok (.tuple #[.slice (some ⟨w.heap.size + 1 + 1 + 1, 0, none⟩) 1 1, .bool true]) (((((((w.alloc (.map (es6 w) 6)).alloc (.cells #[.int .i64 0] 3)).alloc (.cells #[.int .i64 (-1), .int .i64 1] 3)).alloc (.cells #[.int .i64 (-1)] 3)).alloc (.cells #[.int .i64 (-1), .int .i64 0] 3)).alloc (.cells #[.int .i64 1] 3)).alloc (.cells #[.int .i64 0, .int .i64 1] 3)) :=
  look_found Try.underlying43 Try.underlying3 w (es6 w) 6 [.cells #[.int .i64 0] 3, .cells #[.int .i64 (-1), .int .i64 1] 3, .cells #[.int .i64 (-1)] 3, .cells #[.int .i64 (-1), .int .i64 0] 3, .cells #[.int .i64 1] 3, .cells #[.int .i64 0, .int .i64 1] 3] 13 (i := 2) rfl
theorem look14 (w : World) : (Instr.lookup 43 (.map (some w.heap.size)) (.int .i64 14) true).run Try.prog (((((((w.alloc (.map (es6 w) 6)).alloc (.cells #[.int .i64 0] 3)).alloc (.cells #[.int .i64 (-1), .int .i64 1] 3)).alloc (.cells #[.int .i64 (-1)] 3)).alloc (.cells #[.int .i64 (-1), .int .i64 0] 3)).alloc (.cells #[.int .i64 1] 3)).alloc (.cells #[.int .i64 0, .int .i64 1] 3)) = .ok (.tuple #[.slice (some ⟨w.heap.size + 1 + 1 + 1 + 1, 0, none⟩) 2 2, .bool true]) (((((((w.alloc (.map (es6 w) 6)).alloc (.cells #[.int .i64 0] 3)).alloc (.cells #[.int .i64 (-1), .int .i64 1] 3)).alloc (.cells #[.int .i64 (-1)] 3)).alloc (.cells #[.int .i64 (-1), .int .i64 0] 3)).alloc (.cells #[.int .i64 1] 3)).alloc (.cells #[.int .i64 0, .int .i64 1] 3)) :=
  look_found Try.underlying43 Try.underlying3 w (es6 w) 6 [.cells #[.int .i64 0] 3, .cells #[.int .i64 (-1), .int .i64 1] 3, .cells #[.int .i64 (-1)] 3, .cells #[.int .i64 (-1), .int .i64 0] 3, .cells #[.int .i64 1] 3, .cells #[.int .i64 0, .int .i64 1] 3] 14 (i := 3) rfl
theorem look15 (w : World) : (Instr.lookup 43 (.map (some w.heap.size)) (.int .i64 15) true).run Try.prog (((((((w.alloc (.map (es6 w) 6)).alloc (.cells #[.int .i64 0] 3)).alloc (.cells #[.int .i64 (-1), .int .i64 1] 3)).alloc (.cells #[.int .i64 (-1)] 3)).alloc (.cells #[.int .i64 (-1), .int .i64 0] 3)).alloc (.cells #[.int .i64 1] 3)).alloc (.cells #[.int .i64 0, .int .i64 1] 3)) = .ok (.tuple #[.slice (some ⟨w.heap.size + 1 + 1 + 1 + 1 + 1, 0, none⟩) 1 1, .bool true]) (((((((w.alloc (.map (es6 w) 6)).alloc (.cells #[.int .i64 0] 3)).alloc (.cells #[.int .i64 (-1), .int .i64 1] 3)).alloc (.cells #[.int .i64 (-1)] 3)).alloc (.cells #[.int .i64 (-1), .int .i64 0] 3)).alloc (.cells #[.int .i64 1] 3)).alloc (.cells #[.int .i64 0, .int .i64 1] 3)) :=
  look_found Try.underlying43 Try.underlying3 w (es6 w) 6 [.cells #[.int .i64 0] 3, .cells #[.int .i64 (-1), .int .i64 1] 3, .cells #[.int .i64 (-1)] 3, .cells #[.int .i64 (-1), .int .i64 0] 3, .cells #[.int .i64 1] 3, .cells #[.int .i64 0, .int .i64 1] 3] 15 (i := 4) rfl
theorem look16 (w : World) : (Instr.lookup 43 (.map (some w.heap.size)) (.int .i64 16) true).run Try.prog (((((((w.alloc (.map (es6 w) 6)).alloc (.cells #[.int .i64 0] 3)).alloc (.cells #[.int .i64 (-1), .int .i64 1] 3)).alloc (.cells #[.int .i64 (-1)] 3)).alloc (.cells #[.int .i64 (-1), .int .i64 0] 3)).alloc (.cells #[.int .i64 1] 3)).alloc (.cells #[.int .i64 0, .int .i64 1] 3)) = .ok (.tuple #[.slice (some ⟨w.heap.size + 1 + 1 + 1 + 1 + 1 + 1, 0, none⟩) 2 2, .bool true]) (((((((w.alloc (.map (es6 w) 6)).alloc (.cells #[.int .i64 0] 3)).alloc (.cells #[.int .i64 (-1), .int .i64 1] 3)).alloc (.cells #[.int .i64 (-1)] 3)).alloc (.cells #[.int .i64 (-1), .int .i64 0] 3)).alloc (.cells #[.int .i64 1] 3)).alloc (.cells #[.int .i64 0, .int .i64 1] 3)) :=
  look_found Try.underlying43 Try.underlying3 w (es6 w) 6 [.cells #[.int .i64 0] 3, .cells #[.int .i64 (-1), .int .i64 1] 3, .cells #[.int .i64 (-1)] 3, .cells #[.int .i64 (-1), .int .i64 0] 3, .cells #[.int .i64 1] 3, .cells #[.int .i64 0, .int .i64 1] 3] 16 (i := 5) rfl
theorem zero42 (w : World) : (zeroValue 42).run Try.prog w = .ok (.slice none 0 0) w := by kernel_rfl
theorem lookno (w : World) (op : Int) (h : op < 11 ∨ 16 < op) : (Instr.lookup 43 (.map (some w.heap.size)) (.int .i64 op) true).run Try.prog (((((((w.alloc (.map (es6 w) 6)).alloc (.cells #[.int .i64 0] 3)).alloc (.cells #[.int .i64 (-1), .int .i64 1] 3)).alloc (.cells #[.int .i64 (-1)] 3)).alloc (.cells #[.int .i64 (-1), .int .i64 0] 3)).alloc (.cells #[.int .i64 1] 3)).alloc (.cells #[.int .i64 0, .int .i64 1] 3)) = .ok (.tuple #[.slice none 0 0, .bool false]) (((((((w.alloc (.map (es6 w) 6)).alloc (.cells #[.int .i64 0] 3)).alloc (.cells #[.int .i64 (-1), .int .i64 1] 3)).alloc (.cells #[.int .i64 (-1)] 3)).alloc (.cells #[.int .i64 (-1), .int .i64 0] 3)).alloc (.cells #[.int .i64 1] 3)).alloc (.cells #[.int .i64 0, .int .i64 1] 3)) :=
  look_none Try.underlying43 Try.underlying3 w (es6 w) 6 [.cells #[.int .i64 0] 3, .cells #[.int .i64 (-1), .int .i64 1] 3, .cells #[.int .i64 (-1)] 3, .cells #[.int .i64 (-1), .int .i64 0] 3, .cells #[.int .i64 1] 3, .cells #[.int .i64 0, .int .i64 1] 3] op zero42 (by
    have h1 : (op == 11) = false := by simp; omega
    have h2 : (op == 12) = false := by simp; omega
    have h3 : (op == 13) = false := by simp; omega
    have h4 : (op == 14) = false := by simp; omega
    have h5 : (op == 15) = false := by simp; omega
    have h6 : (op == 16) = false := by simp; omega
    simp [es6, Instr.findNow, Instr.sameNow, h1, h2, h3, h4, h5, h6])
/-- The world behind the map's literal. -/
theorem grown6 (w : World) : Below w.heap.size w (((((((w.alloc (.map (es6 w) 6)).alloc (.cells #[.int .i64 0] 3)).alloc (.cells #[.int .i64 (-1), .int .i64 1] 3)).alloc (.cells #[.int .i64 (-1)] 3)).alloc (.cells #[.int .i64 (-1), .int .i64 0] 3)).alloc (.cells #[.int .i64 1] 3)).alloc (.cells #[.int .i64 0, .int .i64 1] 3)) := by go_grown
/-- What P1.2 says. -/
def hB (op c : Int) : Bool :=
  if c < -1 ∨ 1 < c then false else if op = 11 then c == 0 else if op = 12 then c != 0 else if op = 13 then decide (c < 0)
  else if op = 14 then decide (c ≤ 0) else if op = 15 then decide (0 < c) else if op = 16 then decide (0 ≤ c) else false
def hE (op c : Int) : Int := if c < -1 ∨ 1 < c then 14 else if op < 11 ∨ 16 < op then 13 else 0
set_option maxHeartbeats 1000000 in
theorem ref_11 (c : Int) (w : World) (hc : c = -1 ∨ c = 0 ∨ c = 1) :
    Calls Try.prog 9 #[.int .i64 11, .int .i64 c] w fun e w' => e = .returned (.tuple #[.bool (hB 11 c), .int .i64 (hE 11 c)]) ∧ Below w.heap.size w w' := by
  have hmm := @run_makeMap Try.prog
  have i1 := ins1 w
  have i2 := ins2 w
  have i3 := ins3 w
  have i4 := ins4 w
  have i5 := ins5 w
  have i6 := ins6 w
  have lk := look11 w
  change ∀ (t : TypeId) (w : World), (Instr.makeMap t none).run Try.prog w = .ok (.map (some w.heap.size)) (w.alloc (.map (es0 w) 0)) at hmm
  rcases hc with rfl | rfl | rfl
  all_goals
    go_enter Try.func9, Try.ntmps9
    go_wp2
    refine wp_loop_rounds 3 ?_
    repeat (rw [rounds_succ]; go_wp2)
    go_ret2
    exact ⟨rfl, grown6 w⟩
set_option maxHeartbeats 1000000 in
theorem ref_12 (c : Int) (w : World) (hc : c = -1 ∨ c = 0 ∨ c = 1) :
    Calls Try.prog 9 #[.int .i64 12, .int .i64 c] w fun e w' => e = .returned (.tuple #[.bool (hB 12 c), .int .i64 (hE 12 c)]) ∧ Below w.heap.size w w' := by
  have hmm := @run_makeMap Try.prog
  have i1 := ins1 w
  have i2 := ins2 w
  have i3 := ins3 w
  have i4 := ins4 w
  have i5 := ins5 w
  have i6 := ins6 w
  have lk := look12 w
  change ∀ (t : TypeId) (w : World), (Instr.makeMap t none).run Try.prog w = .ok (.map (some w.heap.size)) (w.alloc (.map (es0 w) 0)) at hmm
  rcases hc with rfl | rfl | rfl
  all_goals
    go_enter Try.func9, Try.ntmps9
    go_wp2
    refine wp_loop_rounds 3 ?_
    repeat (rw [rounds_succ]; go_wp2)
    go_ret2
    exact ⟨rfl, grown6 w⟩
set_option maxHeartbeats 1000000 in
theorem ref_13 (c : Int) (w : World) (hc : c = -1 ∨ c = 0 ∨ c = 1) :
    Calls Try.prog 9 #[.int .i64 13, .int .i64 c] w fun e w' => e = .returned (.tuple #[.bool (hB 13 c), .int .i64 (hE 13 c)]) ∧ Below w.heap.size w w' := by
  have hmm := @run_makeMap Try.prog
  have i1 := ins1 w
  have i2 := ins2 w
  have i3 := ins3 w
  have i4 := ins4 w
  have i5 := ins5 w
  have i6 := ins6 w
  have lk := look13 w
  change ∀ (t : TypeId) (w : World), (Instr.makeMap t none).run Try.prog w = .ok (.map (some w.heap.size)) (w.alloc (.map (es0 w) 0)) at hmm
  rcases hc with rfl | rfl | rfl
  all_goals
    go_enter Try.func9, Try.ntmps9
    go_wp2
    refine wp_loop_rounds 3 ?_
    repeat (rw [rounds_succ]; go_wp2)
    go_ret2
    exact ⟨rfl, grown6 w⟩
set_option maxHeartbeats 1000000 in
theorem ref_14 (c : Int) (w : World) (hc : c = -1 ∨ c = 0 ∨ c = 1) :
    Calls Try.prog 9 #[.int .i64 14, .int .i64 c] w fun e w' => e = .returned (.tuple #[.bool (hB 14 c), .int .i64 (hE 14 c)]) ∧ Below w.heap.size w w' := by
  have hmm := @run_makeMap Try.prog
  have i1 := ins1 w
  have i2 := ins2 w
  have i3 := ins3 w
  have i4 := ins4 w
  have i5 := ins5 w
  have i6 := ins6 w
  have lk := look14 w
  change ∀ (t : TypeId) (w : World), (Instr.makeMap t none).run Try.prog w = .ok (.map (some w.heap.size)) (w.alloc (.map (es0 w) 0)) at hmm
  rcases hc with rfl | rfl | rfl
  all_goals
    go_enter Try.func9, Try.ntmps9
    go_wp2
    refine wp_loop_rounds 3 ?_
    repeat (rw [rounds_succ]; go_wp2)
    go_ret2
    exact ⟨rfl, grown6 w⟩
set_option maxHeartbeats 1000000 in
theorem ref_15 (c : Int) (w : World) (hc : c = -1 ∨ c = 0 ∨ c = 1) :
    Calls Try.prog 9 #[.int .i64 15, .int .i64 c] w fun e w' => e = .returned (.tuple #[.bool (hB 15 c), .int .i64 (hE 15 c)]) ∧ Below w.heap.size w w' := by
  have hmm := @run_makeMap Try.prog
  have i1 := ins1 w
  have i2 := ins2 w
  have i3 := ins3 w
  have i4 := ins4 w
  have i5 := ins5 w
  have i6 := ins6 w
  have lk := look15 w
  change ∀ (t : TypeId) (w : World), (Instr.makeMap t none).run Try.prog w = .ok (.map (some w.heap.size)) (w.alloc (.map (es0 w) 0)) at hmm
  rcases hc with rfl | rfl | rfl
  all_goals
    go_enter Try.func9, Try.ntmps9
    go_wp2
    refine wp_loop_rounds 3 ?_
    repeat (rw [rounds_succ]; go_wp2)
    go_ret2
    exact ⟨rfl, grown6 w⟩
set_option maxHeartbeats 1000000 in
theorem ref_16 (c : Int) (w : World) (hc : c = -1 ∨ c = 0 ∨ c = 1) :
    Calls Try.prog 9 #[.int .i64 16, .int .i64 c] w fun e w' => e = .returned (.tuple #[.bool (hB 16 c), .int .i64 (hE 16 c)]) ∧ Below w.heap.size w w' := by
  have hmm := @run_makeMap Try.prog
  have i1 := ins1 w
  have i2 := ins2 w
  have i3 := ins3 w
  have i4 := ins4 w
  have i5 := ins5 w
  have i6 := ins6 w
  have lk := look16 w
  change ∀ (t : TypeId) (w : World), (Instr.makeMap t none).run Try.prog w = .ok (.map (some w.heap.size)) (w.alloc (.map (es0 w) 0)) at hmm
  rcases hc with rfl | rfl | rfl
  all_goals
    go_enter Try.func9, Try.ntmps9
    go_wp2
    refine wp_loop_rounds 3 ?_
    repeat (rw [rounds_succ]; go_wp2)
    go_ret2
    exact ⟨rfl, grown6 w⟩
theorem ref_kind (op c : Int) (w : World) (ho : op < 11 ∨ 16 < op) (hc : c = -1 ∨ c = 0 ∨ c = 1) :
    Calls Try.prog 9 #[.int .i64 op, .int .i64 c] w fun e w' => e = .returned (.tuple #[.bool (hB op c), .int .i64 (hE op c)]) ∧ Below w.heap.size w w' := by
  have hmm := @run_makeMap Try.prog
  have i1 := ins1 w
  have i2 := ins2 w
  have i3 := ins3 w
  have i4 := ins4 w
  have i5 := ins5 w
  have i6 := ins6 w
  have lk := lookno w op ho
  have e1 : hB op c = false := by unfold hB; repeat (rw [if_neg (by omega)])
  have e2 : hE op c = 13 := by unfold hE; rw [if_neg (by omega), if_pos ho]
  rw [e1, e2]
  clear e1 e2 ho
  change ∀ (t : TypeId) (w : World), (Instr.makeMap t none).run Try.prog w = .ok (.map (some w.heap.size)) (w.alloc (.map (es0 w) 0)) at hmm
  rcases hc with rfl | rfl | rfl
  all_goals
    go_enter Try.func9, Try.ntmps9
    go_wp2
    go_ret2
    exact ⟨rfl, grown6 w⟩
theorem ref_range (op c : Int) (w : World) (hc : c < -1 ∨ 1 < c) :
    Calls Try.prog 9 #[.int .i64 op, .int .i64 c] w fun e w' => e = .returned (.tuple #[.bool (hB op c), .int .i64 (hE op c)]) ∧ Below w.heap.size w w' := by
  have e1 : hB op c = false := by unfold hB; rw [if_pos hc]
  have e2 : hE op c = 14 := by unfold hE; rw [if_pos hc]
  rw [e1, e2]
  clear e1 e2
  rcases hc with hc | hc
  all_goals
    by_cases hq : 1 < wrap64 (c * c)
  all_goals
    go_enter Try.func9, Try.ntmps9
    go_wp2
    go_ret2
    exact ⟨rfl, Below.refl _ _⟩
theorem ref_holds (op c : Int) (w : World) :
    Calls Try.prog 9 #[.int .i64 op, .int .i64 c] w fun e w' => e = .returned (.tuple #[.bool (hB op c), .int .i64 (hE op c)]) ∧ Below w.heap.size w w' := by
  by_cases hc : c < -1 ∨ 1 < c
  · exact ref_range op c w hc
  · have hc' : c = -1 ∨ c = 0 ∨ c = 1 := by omega
    by_cases ho : op < 11 ∨ 16 < op
    · exact ref_kind op c w ho hc'
    · have ho' : op = 11 ∨ op = 12 ∨ op = 13 ∨ op = 14 ∨ op = 15 ∨ op = 16 := by omega
      rcases ho' with rfl | rfl | rfl | rfl | rfl | rfl
      · exact ref_11 c w hc'
      · exact ref_12 c w hc'
      · exact ref_13 c w hc'
      · exact ref_14 c w hc'
      · exact ref_15 c w hc'
      · exact ref_16 c w hc'
set_option maxHeartbeats 1000000 in
/-- word.Holds. -/
theorem own_holds (op c : Int) (w : World) :
    Calls Try.prog 8 #[.int .i64 op, .int .i64 c] w fun e w' => e = .returned (.tuple #[.bool (hB op c), .int .i64 (hE op c)]) ∧ w' = w := by
  by_cases hc : c < -1 ∨ 1 < c
  · have e1 : hB op c = false := by unfold hB; rw [if_pos hc]
    have e2 : hE op c = 14 := by unfold hE; rw [if_pos hc]
    rw [e1, e2]
    clear e1 e2
    rcases hc with hc | hc
    all_goals
      go_enter Try.func8, Try.ntmps8
      go_wp2
      go_ret2
      exact ⟨rfl, rfl⟩
  · have hc' : c = -1 ∨ c = 0 ∨ c = 1 := by omega
    by_cases ho : op < 11 ∨ 16 < op
    · have e1 : hB op c = false := by unfold hB; repeat (rw [if_neg (by omega)])
      have e2 : hE op c = 13 := by unfold hE; rw [if_neg (by omega), if_pos ho]
      rw [e1, e2]
      clear e1 e2
      have h1 : (op == 11) = false := by simp; omega
      have h2 : (op == 12) = false := by simp; omega
      have h3 : (op == 13) = false := by simp; omega
      have h4 : (op == 14) = false := by simp; omega
      have h5 : (op == 15) = false := by simp; omega
      have h6 : (op == 16) = false := by simp; omega
      have l1 : ¬ c < -1 := by omega
      have l2 : ¬ 1 < c := by omega
      clear hc hc' ho
      go_enter Try.func8, Try.ntmps8
      go_wp2
      go_ret2
      exact ⟨rfl, rfl⟩
    · have ho' : op = 11 ∨ op = 12 ∨ op = 13 ∨ op = 14 ∨ op = 15 ∨ op = 16 := by omega
      clear hc ho
      rcases ho' with rfl | rfl | rfl | rfl | rfl | rfl <;> rcases hc' with rfl | rfl | rfl
      all_goals
        go_enter Try.func8, Try.ntmps8
        go_wp2
        go_ret2
        exact ⟨rfl, rfl⟩
end Go.Proofs.Ytopefdcmmmjihaa
