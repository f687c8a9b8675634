/- The function that scan.Tokens defers. -/
import Derived.Test.YtpdndpajobfhmabGreatDoorScn4
import Derived.Defers
import Derived.Recover
import Derived.Laws.Pointers
namespace Go.Proofs.YtpdndpajobfhmabGreatDoor
open Go.ChangeShapes Go.WideShapes Go.ChangeAt Go.RowKit
set_option maxRecDepth 100000
set_option linter.unusedSimpArgs false

section
variable {P : Program} {ops : Array Oper} {Q : Exit → Act → List Frame → World → Prop} {i : Nat} {rest : List Nat} {o : Oper} {a : Act} {cs cs' : List Frame} {w w' : World} {v : Value}
theorem opsS_recover (ho : ops[i]? = some o) (hw : Region.wanted o (yielded ops a.tmps) = true) (hx : (execOp a.eval o).run P w = .ok .recover w) (hr : recoverD cs = some (v, cs')) (h : wpOpsS P ops Q rest (a.put o.dst v) cs' w) : wpOpsS P ops Q (i :: rest) a cs w := by
  simp only [wpOpsS, ho, hw, if_true, hx, hr]; exact h
theorem opsS_idle (ho : ops[i]? = some o) (hw : Region.wanted o (yielded ops a.tmps) = true) (hx : (execOp a.eval o).run P w = .ok .recover w) (hr : recoverD cs = none) (h : wpOpsS P ops Q rest (a.put o.dst .nilIface) cs w) : wpOpsS P ops Q (i :: rest) a cs w := by
  simp only [wpOpsS, ho, hw, if_true, hx, hr]; exact h
theorem opsS_value (ho : ops[i]? = some o) (hw : Region.wanted o (yielded ops a.tmps) = true) (hx : (execOp a.eval o).run P w = .ok (.value v) w') (h : wpOpsS P ops Q rest (a.put o.dst v) cs w') : wpOpsS P ops Q (i :: rest) a cs w := by
  simp only [wpOpsS, ho, hw, if_true, hx, Oper.upon_value]; exact h
theorem opsS_skip (ho : ops[i]? = some o) (hw : Region.wanted o (yielded ops a.tmps) = true) (hx : (execOp a.eval o).run P w = .ok .skip w') (h : wpOpsS P ops Q rest (a.put o.dst undef) cs w') : wpOpsS P ops Q (i :: rest) a cs w := by
  simp only [wpOpsS, ho, hw, if_true, hx, Oper.upon]; exact h
theorem opsS_nil (h : Q .normal a cs w) : wpOpsS P ops Q [] a cs w := h
end
theorem assert_nil (w : World) : (Instr.typeAssert .nilIface 20 25 true).run Tryz.prog w = .ok (.tuple #[.agg #[.int .i64 0, .int .i64 0, .int .i64 0], .bool false]) w := by kernel_rfl
theorem assert_spot (c ln cl : Int) (w : World) : (Instr.typeAssert (.iface 25 (.agg #[.int .i64 c, .int .i64 ln, .int .i64 cl])) 20 25 true).run Tryz.prog w = .ok (.tuple #[.agg #[.int .i64 c, .int .i64 ln, .int .i64 cl], .bool true]) w := by kernel_rfl

theorem frame_of (x y : Value) : (#[x, y] ++ Array.replicate (Tryz.f25.ntmps - #[x, y].size) undef : Array Value) = #[x, y, undef, undef, undef, undef, undef, undef, undef, undef, undef] := by rw [Tryz.ntmps25]; rfl
set_option maxHeartbeats 1000000 in
theorem catch_idle (lb sb : Nat) (w : World) :
    CallsD Tryz.prog 25 #[.pointer (some ⟨lb, 0, none⟩), .pointer (some ⟨sb, 0, none⟩)] .returning w fun e u' w' => e = .returned (.tuple #[]) ∧ u' = .returning ∧ Below w.heap.size w w' := by
  have ha := fun W => assert_nil W
  refine callsD_of_wpS Tryz.func25 rfl fun c₀ cs hu => ?_
  rw [frame_of]
  apply wpS_seq
  apply wpS_region
  simp [wpOpsS, go_sem, recoverD, hu, Exit.thenS, ha]
  refine wpS_of_wp ?_
  go_wp2
  cases c₀
  simp_all [bodyPostS, results, Tryz.results25]
  exact (Below.refl _ _).alloc (Nat.le_refl _) _
set_option maxHeartbeats 1000000 in
theorem catch_panic (B lb sb : Nat) (c ln cl : Int) (v : Value) (w : World) (hB1 : B ≤ lb) (hB2 : B ≤ sb) (hBw : B ≤ w.heap.size) (hl : w.heap[lb]? = some (.cells #[v] 42 (0, 0))) (hs : w.heap[sb]? = some (.cells #[.int .i64 0, .int .i64 0, .int .i64 0] 25 (0, 0))) :
    CallsD Tryz.prog 25 #[.pointer (some ⟨lb, 0, none⟩), .pointer (some ⟨sb, 0, none⟩)] (.panicking [{ v := .iface 25 (.agg #[.int .i64 c, .int .i64 ln, .int .i64 cl]), recovered := false }]) w fun e u' w' => e = .returned (.tuple #[]) ∧ u' = .panicking [{ v := .iface 25 (.agg #[.int .i64 c, .int .i64 ln, .int .i64 cl]), recovered := true }] ∧
      (w'.heap[lb]? = some (.cells #[.slice none 0 0] 42 (0, 0)) ∧ w'.heap[sb]? = some (.cells #[.int .i64 c, .int .i64 ln, .int .i64 cl] 25 (0, 0)) ∧ Below B w w') := by
  have ha := fun W => assert_spot c ln cl W
  have l1 : lb < w.heap.size := (Array.getElem?_eq_some_iff.1 hl).1
  have l2 : sb < w.heap.size := (Array.getElem?_eq_some_iff.1 hs).1
  have hne : lb ≠ sb := by intro e; subst e; rw [hl] at hs; simp at hs
  have p0 : w.cell? ⟨lb, 0, none⟩ = some v := by simp [World.cell?, hl]
  have p1 : w.cell? ⟨sb, 0, none⟩ = some (.int .i64 0) := by simp [World.cell?, hs]
  have p2 : w.cell? ⟨sb, 1, none⟩ = some (.int .i64 0) := by simp [World.cell?, hs]
  have p3 : w.cell? ⟨sb, 2, none⟩ = some (.int .i64 0) := by simp [World.cell?, hs]
  have f0 : w.frozen? ⟨lb, 0, none⟩ = false := by simp [World.frozen?, hl]
  have f1 : ∀ j, w.frozen? ⟨sb, j, none⟩ = false := by intro j; simp [World.frozen?, hs]
  refine callsD_of_wpS Tryz.func25 rfl fun c₀ cs hu => ?_
  rw [frame_of]
  apply wpS_seq
  apply wpS_region
  simp [wpOpsS, go_sem, recoverD, hu, Exit.thenS, ha]
  refine wpS_of_wp ?_
  go_wp2
  have hl0 : (w.alloc (.cells #[.int .i64 c, .int .i64 ln, .int .i64 cl] 25)).heap[lb]? = some (.cells #[v] 42 (0, 0)) := (Lib.alloc_old w _ lb l1).trans hl
  have hs0 : (w.alloc (.cells #[.int .i64 c, .int .i64 ln, .int .i64 cl] 25)).heap[sb]? = some (.cells #[.int .i64 0, .int .i64 0, .int .i64 0] 25 (0, 0)) := (Lib.alloc_old w _ sb l2).trans hs
  have hk0 : (w.alloc (.cells #[.int .i64 c, .int .i64 ln, .int .i64 cl] 25)).heap[w.heap.size]? = some (.cells #[.int .i64 c, .int .i64 ln, .int .i64 cl] 25 (0, 0)) := heap_alloc_new w _
  have HB0 : Hid (Below B w (w.alloc (.cells #[.int .i64 c, .int .i64 ln, .int .i64 cl] 25))) := (Below.refl B w).alloc hBw _
  have hk : lb ≠ w.heap.size := by omega
  have hk2 : sb ≠ w.heap.size := by omega
  clear p0 p1 p2 p3 f0 f1 hl hs ha
  generalize w.alloc (.cells #[.int .i64 c, .int .i64 ln, .int .i64 cl] 25) = W0 at *
  generalize w.heap.size = k at *
  have HH : Hid (W0.heap[lb]? = some (.cells #[v] 42 (0, 0)) ∧ W0.heap[sb]? = some (.cells #[.int .i64 0, .int .i64 0, .int .i64 0] 25 (0, 0))) := ⟨hl0, hs0⟩
  have p0 : W0.cell? ⟨lb, 0, none⟩ = some v := by simp [World.cell?, hl0]
  have p1 : W0.cell? ⟨sb, 0, none⟩ = some (.int .i64 0) := by simp [World.cell?, hs0]
  have p2 : W0.cell? ⟨sb, 1, none⟩ = some (.int .i64 0) := by simp [World.cell?, hs0]
  have p3 : W0.cell? ⟨sb, 2, none⟩ = some (.int .i64 0) := by simp [World.cell?, hs0]
  have k1 : W0.cell? ⟨k, 0, none⟩ = some (.int .i64 c) := by simp [World.cell?, hk0]
  have k2 : W0.cell? ⟨k, 1, none⟩ = some (.int .i64 ln) := by simp [World.cell?, hk0]
  have k3 : W0.cell? ⟨k, 2, none⟩ = some (.int .i64 cl) := by simp [World.cell?, hk0]
  have f0 : W0.frozen? ⟨lb, 0, none⟩ = false := by simp [World.frozen?, hl0]
  have f1 : ∀ j, W0.frozen? ⟨sb, j, none⟩ = false := by intro j; simp [World.frozen?, hs0]
  have h3 : lb = sb ↔ False := by simp [hne]
  have h4 : lb = k ↔ False := by simp [hk]
  have h5 : sb = k ↔ False := by simp [hk2]
  have h6 : sb = lb ↔ False := by simp [Ne.symm hne]
  have h7 : k = lb ↔ False := by simp [Ne.symm hk]
  have h8 : k = sb ↔ False := by simp [Ne.symm hk2]
  clear hl0 hs0 hk0
  have HE : Hid (((((W0.setCell ⟨lb, 0, none⟩ (.slice none 0 0)).setCell ⟨sb, 0, none⟩ (.int .i64 c)).setCell ⟨sb, 1, none⟩ (.int .i64 ln)).setCell ⟨sb, 2, none⟩ (.int .i64 cl)).drew.heap[lb]? = some (.cells #[.slice none 0 0] 42 (0, 0)) ∧
      ((((W0.setCell ⟨lb, 0, none⟩ (.slice none 0 0)).setCell ⟨sb, 0, none⟩ (.int .i64 c)).setCell ⟨sb, 1, none⟩ (.int .i64 ln)).setCell ⟨sb, 2, none⟩ (.int .i64 cl)).drew.heap[sb]? = some (.cells #[.int .i64 c, .int .i64 ln, .int .i64 cl] 25 (0, 0)) ∧
      Below B w ((((W0.setCell ⟨lb, 0, none⟩ (.slice none 0 0)).setCell ⟨sb, 0, none⟩ (.int .i64 c)).setCell ⟨sb, 1, none⟩ (.int .i64 ln)).setCell ⟨sb, 2, none⟩ (.int .i64 cl)).drew) := by
    refine ⟨?_, ?_, ?_⟩
    · show ((((W0.setCell ⟨lb, 0, none⟩ (.slice none 0 0)).setCell ⟨sb, 0, none⟩ (.int .i64 c)).setCell ⟨sb, 1, none⟩ (.int .i64 ln)).setCell ⟨sb, 2, none⟩ (.int .i64 cl)).heap[lb]? = _
      simp [World.setCell, Array.getElem?_modify, HH.out.1, h3, h6]
    · show ((((W0.setCell ⟨lb, 0, none⟩ (.slice none 0 0)).setCell ⟨sb, 0, none⟩ (.int .i64 c)).setCell ⟨sb, 1, none⟩ (.int .i64 ln)).setCell ⟨sb, 2, none⟩ (.int .i64 cl)).heap[sb]? = _
      simp [World.setCell, Array.getElem?_modify, HH.out.2, h3, h6]
    · exact below_dn ((((HB0.out.setCell (p := ⟨lb, 0, none⟩) hB1 _).setCell (p := ⟨sb, 0, none⟩) hB2 _).setCell (p := ⟨sb, 1, none⟩) hB2 _).setCell (p := ⟨sb, 2, none⟩) hB2 _) 1
  go_region
  all_goals
    exact ⟨rfl, _, rfl, _, by rw [results_none rfl], rfl, rfl, HE.out⟩
end Go.Proofs.YtpdndpajobfhmabGreatDoor
