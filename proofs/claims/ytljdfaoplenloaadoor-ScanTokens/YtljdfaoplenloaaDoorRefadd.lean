/- The reference's tokens in memory, and the closure that adds one. -/
import Derived.Test.YtljdfaoplenloaaDoorRefplace
import Derived.Test.YtljdfaoplenloaaDoorReftok
namespace Go.Proofs.YtljdfaoplenloaaDoor
open Go.ChangeShapes Go.WideShapes Go.ChangeAt Go.RowKit
set_option maxRecDepth 100000
set_option linter.unusedSimpArgs false
set_option linter.unusedVariables false

/-- Where the reference keeps the source, its answer's spot, and the tokens found so far. -/
structure RT (B : Nat) (src : ByteArray) (ts : List Tk) (W : World) (ao : Option Addr) (cv : Nat) : Prop where
  b0 : W.heap[B]? = some (.cells #[.string src] 9 (0, 0))
  b1 : W.heap[B + 1]? = some (.cells #[.int .i64 0, .int .i64 0, .int .i64 0] 25 (0, 0))
  b2 : W.heap[B + 2]? = some (.cells #[.slice ao ts.length cv] 22 (0, 0))
  own : W.ownsRow (B + 3) 33 4 (.slice ao ts.length cv) ts.length (tcells ts)
theorem RT.below {B : Nat} {src : ByteArray} {ts : List Tk} {W W' : World} {ao : Option Addr} {cv : Nat} (h : RT B src ts W ao cv) (hb : Below W.heap.size W W') : RT B src ts W' ao cv := by
  have h0 := (Array.getElem?_eq_some_iff.1 h.b0).1
  have h1 := (Array.getElem?_eq_some_iff.1 h.b1).1
  have h2 := (Array.getElem?_eq_some_iff.1 h.b2).1
  exact ⟨(hb.block _ h0).trans h.b0, (hb.block _ h1).trans h.b1, (hb.block _ h2).trans h.b2, row_on h.own (Nat.le_refl _) hb⟩
theorem RT.cells {B : Nat} {src : ByteArray} {ts : List Tk} {W : World} {ao : Option Addr} {cv : Nat} (h : RT B src ts W ao cv) :
    W.cell? ⟨B, 0, none⟩ = some (.string src) ∧ W.cell? ⟨B + 2, 0, none⟩ = some (.slice ao ts.length cv) ∧ W.frozen? ⟨B + 2, 0, none⟩ = false ∧ B + 2 < W.heap.size :=
  ⟨by simp [World.cell?, h.b0], by simp [World.cell?, h.b2], by simp [World.frozen?, h.b2], (Array.getElem?_eq_some_iff.1 h.b2).1⟩
/-- A token appended, and stored. -/
theorem RT.put {B : Nat} {src : ByteArray} {ts : List Tk} {W w3 : World} {ao : Option Addr} {cv : Nat} {t : Tk} {o : Obj} {v' : Value} (h : RT B src ts W ao cv)
    (hg : (W.alloc o).grownBy w3 (Value.slice ao ts.length cv).ownBlock) (ho : w3.ownsRow (B + 3) 33 4 v' (ts.length + 1) (tcells ts ++ t.cells)) :
    ∃ ao' cv', v' = .slice ao' (ts.length + 1) cv' ∧ RT B src (ts ++ [t]) (w3.setCell ⟨B + 2, 0, none⟩ v') ao' cv' ∧ Below B W (w3.setCell ⟨B + 2, 0, none⟩ v') ∧
      w3.cell? ⟨B + 2, 0, none⟩ = some (.slice ao ts.length cv) ∧ w3.frozen? ⟨B + 2, 0, none⟩ = false := by
  obtain ⟨g3, cap3, hv3⟩ : ∃ g3 cap3, v' = .slice (some ⟨g3, 0, none⟩) (ts.length + 1) cap3 := by
    rcases ho.2 with ⟨_, h⟩ | ⟨g3, cap3, _, h, _⟩
    · omega
    · exact ⟨g3, cap3, h⟩
  have hlt := h.cells.2.2.2
  have hrow : ∀ q, (Value.slice ao ts.length cv).ownBlock = some q → B + 3 ≤ q := fun q hq => (h.own.lt q hq).1
  have hw3 : ∀ i, i < B + 3 → w3.heap[i]? = W.heap[i]? := fun i hi => by
    rw [hg.block i (by simp; omega) (fun e => by have := hrow i e.symm; omega)]
    exact Below.heap_alloc _ _ _ (by omega)
  have x2 := (hw3 (B + 2) (by omega)).trans h.b2
  refine ⟨_, _, hv3, ⟨?_, ?_, ?_, ?_⟩, ?_, by simp [World.cell?, x2], by simp [World.frozen?, x2]⟩
  · rw [Below.heap_setCell _ _ _ _ (by simp)]; exact (hw3 B (by omega)).trans h.b0
  · rw [Below.heap_setCell _ _ _ _ (by simp)]; exact (hw3 (B + 1) (by omega)).trans h.b1
  · rw [List.length_append, List.length_singleton, ← hv3]
    simp [World.setCell, Array.getElem?_modify, x2]
  · rw [List.length_append, List.length_singleton, ← hv3, tcells_snoc]
    refine ho.kept (row := some (B + 2)) ⟨rfl, rfl, rfl, by simp [World.setCell], fun i _ hi => Below.heap_setCell _ _ _ _ (fun e => hi (by simp [e]))⟩ ?_
    cases hq : v'.ownBlock with
    | none => exact .inl rfl
    | some q => right; have := (ho.lt q hq).1; simp; omega
  · exact ((((Below.refl _ _).mono (show B ≤ W.heap.size by omega)).alloc (by omega) o).grown hg (by simp; omega) (fun q hq => by have := hrow q hq; omega)).setCell (by simp) _
set_option maxHeartbeats 2000000 in
theorem ref_add (B : Nat) (src : ByteArray) (ts : List Tk) (k : Int) (p : Nat) (t : ByteArray) (W : World) (ao : Option Addr) (cv : Nat) (h : RT B src ts W ao cv) (hp : p ≤ src.size) (hs : src.size ≤ 8000) (hl : ts.length ≤ 2000) :
    Calls Tryd.prog 15 #[.int .i64 k, .int .i64 (p : Int), .string t, .pointer (some ⟨B, 0, none⟩), .pointer (some ⟨B + 2, 0, none⟩)] W fun e w' =>
      e = .returned (.bool (decide (ts.length < 2000))) ∧ Below B W w' ∧ ∃ ao' cv', RT B src (ts ++ [⟨k, t, (plc src.data.toList p).1, (plc src.data.toList p).2⟩]) w' ao' cv' := by
  obtain ⟨i0, hi, hz0, hz1, hz2⟩ := info_parts Tryd.infoTok
  have HP : Hid (∀ W, Calls Tryd.prog 16 #[.string src, .int .i64 (p : Int)] W fun e w' => e = .returned (.tuple #[.int .i64 (plc src.data.toList p).1, .int .i64 (plc src.data.toList p).2]) ∧ w' = W) := fun W => ref_place src p W hp hs
  obtain ⟨c0, c2, f2, hlt⟩ := h.cells
  have HR : Hid (RT B src ts W ao cv) := h
  generalize (plc src.data.toList p).1 = x at *
  generalize (plc src.data.toList p).2 = y at *
  clear h hp hs
  go_enter Tryd.func15, Tryd.ntmps15
  go_wp2_with fail
  refine (HP.out _).mono ?_
  rintro e w1 ⟨rfl, rfl⟩
  go_wp2_with (at_builtin; refine wpList_append_own _ rfl _ _ 22 rfl (B + 3) 33 i0 _ 4 40 Tryd.underlying22 hi hz0 hz1 hz2 rfl (by decide) _ _ _ rfl (HR.out.own.alloc _) ⟨w1.heap.size, 0, none⟩ 1 1 (Tk.cells ⟨k, t, x, y⟩) rfl rfl ?c1 ?c2 ?c3 ?c4 ?c5 ?_)
  case c1 => exact cells_new w1 (Tk.cells ⟨k, t, x, y⟩) _
  case c2 => intro u hu; simp [Tk.cells] at hu; rcases hu with rfl | rfl | rfl | rfl <;> rfl
  case c3 => unfold maxLen; omega
  case c4 => omega
  case c5 => simp; omega
  intro v' w3 hown' hgrow _
  obtain ⟨ao', cv', rfl, hrt, hbw, d2, f3⟩ := HR.out.put (t := ⟨k, t, x, y⟩) hgrow hown'
  have HF : Hid (Below B w1 (w3.setCell ⟨B + 2, 0, none⟩ (.slice ao' (ts.length + 1) cv')) ∧ ∃ a2 c2, RT B src (ts ++ [⟨k, t, x, y⟩]) (w3.setCell ⟨B + 2, 0, none⟩ (.slice ao' (ts.length + 1) cv')) a2 c2) := ⟨hbw, ao', cv', hrt⟩
  clear hgrow hown' hrt hbw
  by_cases hfull : ts.length < 2000
  · have hle : ((ts.length + 1 : Nat) : Int) ≤ 2000 := by omega
    go_wp2
    go_ret
    exact ⟨by rw [decide_eq_true hfull]; simp; omega, HF.out⟩
  · have hle : (2000 : Int) < ((ts.length + 1 : Nat) : Int) := by omega
    go_wp2
    go_ret
    exact ⟨by rw [decide_eq_false hfull]; simp; omega, HF.out⟩
end Go.Proofs.YtljdfaoplenloaaDoor
