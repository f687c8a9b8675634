/- Lists of panics. -/
import Derived.Test.YtncjaohiimenaabDoorProw
import Derived.Test.YtncjaohiimenaabDoorRtext
namespace Go.Proofs.YtncjaohiimenaabDoor
open Go.ChangeShapes Go.WideShapes Go.ChangeAt Go.RowKit
set_option maxRecDepth 100000
set_option linter.unusedSimpArgs false
set_option linter.unusedVariables false
theorem Tryd.infoPnR : (Tryd.prog.info? 27).map (fun i => (i.zero, i.size, i.bytes)) = some (some (.agg #[.int .i64 0, .int .i64 0, .int .i64 0, .string ⟨#[]⟩, .slice none 0 0, .bool false, .bool false]), 7, 72) := by kernel_rfl
/-- A panic, and where its value's list lies. -/
structure Pe where
  ser : Int
  x : Vv
  L : Value
  rc : Bool
  ab : Bool
def Pe.cells (e : Pe) : List Value := [.int .i64 e.ser, .int .i64 e.x.kind, .int .i64 e.x.n, .string e.x.s, e.L, .bool e.rc, .bool e.ab]
theorem Pe.len (e : Pe) : e.cells.length = 7 := rfl
theorem Pe.one {e : Pe} {lo : Option Addr} {ln lc : Nat} (h : e.L = .slice lo ln lc) : ∀ u ∈ e.cells, u.oneCell' = true := by
  intro u hu
  simp [Pe.cells, h] at hu
  rcases hu with rfl | rfl | rfl | rfl | rfl | rfl | rfl <;> rfl
/-- What is told of a panic hangs on this alone. -/
def Pe.key (e : Pe) : Int × Vv × Bool × Bool := (e.ser, e.x, e.rc, e.ab)
/-- Panics that lie somewhere. -/
structure PsLies (w : World) (v : Value) (es : List Pe) : Prop where
  row : RLies 7 Pe.cells w v es
  own : ∀ e ∈ es, ILies w e.L e.x.l
theorem PsLies.below {w w' : World} {v : Value} {es : List Pe} (h : PsLies w v es) (hb : Below w.heap.size w w') : PsLies w' v es :=
  ⟨h.row.below hb (Nat.le_refl _), fun e he => (h.own e he).below hb (Nat.le_refl _)⟩
/-- Panics in memory of their own, at B or above. -/
structure PRow (B : Nat) (w : World) (v : Value) (es : List Pe) : Prop where
  row : w.ownsRow B 27 7 v es.length (rc Pe.cells es)
  own : ∀ e ∈ es, w.ownsRow B 3 1 e.L e.x.l.length (e.x.l.map (Value.int .i64))
theorem PRow.lies {B : Nat} {w : World} {v : Value} {es : List Pe} (h : PRow B w v es) : PsLies w v es :=
  ⟨lies_own Pe.len h.row, fun e he => ILies.row (h.own e he)⟩
theorem PRow.below {B : Nat} {w w' : World} {v : Value} {es : List Pe} (h : PRow B w v es) (hb : Below w.heap.size w w') : PRow B w' v es :=
  ⟨row_below h.row hb, fun e he => row_below (h.own e he) hb⟩
theorem PRow.nil (B : Nat) (w : World) : PRow B w (.slice none 0 0) [] := ⟨World.ownsRow_nil _ _ _ _, fun e he => by cases he⟩
/-- What is known of panics that came in. -/
structure PsIn (es : List Pe) : Prop where
  each : ∀ e ∈ es, VIn e.x ∧ e.x.s.size ≤ 1048576 ∧ e.x.l.length ≤ 1048576
  size : es.length ≤ 1048576
theorem PsIn.key {es ms : List Pe} (h : PsIn es) (hk : ms.map Pe.key = es.map Pe.key) : PsIn ms := by
  refine ⟨fun e he => ?_, ?_⟩
  · have h1 : e.key ∈ es.map Pe.key := by rw [← hk]; exact List.mem_map.2 ⟨e, he, rfl⟩
    obtain ⟨e2, h2, h3⟩ := List.mem_map.1 h1
    have h4 := h.each e2 h2
    have h5 : e2.x = e.x := by have := congrArg (fun p => p.2.1) h3; exact this
    rw [h5] at h4
    exact h4
  · have := congrArg List.length hk
    simp at this
    rw [this]; exact h.size
theorem PRow.push {B : Nat} {w w' : World} {v v' : Value} {es : List Pe} {e : Pe} (h : PRow B w v es) (hg : w.grownBy w' v.ownBlock) (hr : w'.ownsRow B 27 7 v' (es ++ [e]).length (rc Pe.cells (es ++ [e]))) (hL : w.ownsRow B 3 1 e.L e.x.l.length (e.x.l.map (Value.int .i64))) : PRow B w' v' (es ++ [e]) := by
  have ht : ∀ g, v.ownBlock = some g → ∃ cs z, w.heap[g]? = some (.cells cs 27 z) := fun g hg => by obtain ⟨cs, h2⟩ := row_typed h.row g hg; exact ⟨_, _, h2⟩
  refine ⟨hr, fun x hx => ?_⟩
  rcases List.mem_append.1 hx with h1 | h1
  · exact row_grown (h.own x h1) hg ht (by decide)
  · simp at h1; subst h1; exact row_grown hL hg ht (by decide)
/-- A value of its own memory. -/
theorem own_own3 (x : Vv) (L : Value) (w : World) (hi : VIn x) (hm : ILies w L x.l) :
    Calls Tryd.prog 6 #[vval x L] w fun e w' => ∃ L', e = .returned (vval x L') ∧ w'.ownsRow w.heap.size 3 1 L' x.l.length (x.l.map (Value.int .i64)) ∧ Below w.heap.size w w' := by
  have HC : Hid (∀ o1 o2, ILies ((w.alloc o1).alloc o2) L x.l) := fun o1 o2 => hm.below (((Below.refl _ _).alloc (Nat.le_refl _) _).alloc (by simp) _) (Nat.le_refl _)
  have HN : Hid (x.l.length * 8 ≤ 140737488351232) := hi.sz
  unfold vval
  go_enter Tryd.func6, Tryd.ntmps6
  go_wp2_with (at_builtin; refine icopy rfl _ _ rfl rfl rfl (HC.out _ _) HN.out (w.heap.size + 2) (by simp) ?_; intro v' w1 hown hb1; obtain ⟨ao, cap, rfl⟩ := row_slice hown; have HO : Hid (w1.ownsRow (w.heap.size + 2) 3 1 (.slice ao x.l.length cap) x.l.length (x.l.map (Value.int .i64))) := hown; clear hown; obtain ⟨hh1, hh2, hz, hb2⟩ := two_boxes hb1; obtain ⟨⟨c0, c1, c2, c3⟩, f0, f1, f2, f3⟩ := box4 hh1; obtain ⟨⟨d0, d1, d2, d3⟩, g0, g1, g2, g3⟩ := box4 hh2; have HB : Hid _ := hb2; clear hb1 hb2 hh1 hh2)
  refine bodyPost_ret (v := vval x (.slice ao x.l.length cap)) (by simp [vval, results, Tryd.results6, go_sem, c0, c1, c2, c3, d0, d1, d2, d3]) rfl ⟨_, rfl, ?_, ?_⟩
  · refine row_up ?_ (show w.heap.size ≤ w.heap.size + 2 by omega)
    exact ownsRow_setCell_below (ownsRow_setCell_below (ownsRow_setCell_below (ownsRow_setCell_below (ownsRow_setCell_below HO.out (by simp) _) (by simp) _) (by simp) _) (by simp) _) (by simp) _
  · exact ((((HB.out.setCell (Nat.le_refl _) _).setCell (by simp) _).setCell (by simp) _).setCell (by simp) _).setCell (by simp) _
theorem box7 {w : World} {b : Nat} {c0 c1 c2 c3 c4 c5 c6 : Value} {t : TypeId} (h : w.heap[b]? = some (.cells #[c0, c1, c2, c3, c4, c5, c6] t (0, 0))) :
    (w.cell? ⟨b, 0, none⟩ = some c0 ∧ w.cell? ⟨b, 1, none⟩ = some c1 ∧ w.cell? ⟨b, 2, none⟩ = some c2 ∧ w.cell? ⟨b, 3, none⟩ = some c3 ∧ w.cell? ⟨b, 4, none⟩ = some c4 ∧ w.cell? ⟨b, 5, none⟩ = some c5 ∧ w.cell? ⟨b, 6, none⟩ = some c6) ∧
    (w.frozen? ⟨b, 0, none⟩ = false ∧ w.frozen? ⟨b, 1, none⟩ = false ∧ w.frozen? ⟨b, 2, none⟩ = false ∧ w.frozen? ⟨b, 3, none⟩ = false ∧ w.frozen? ⟨b, 4, none⟩ = false ∧ w.frozen? ⟨b, 5, none⟩ = false ∧ w.frozen? ⟨b, 6, none⟩ = false) := by
  simp [World.cell?, World.frozen?, h]
theorem set1234 {w w0 : World} {g B : Nat} {c0 c1 c2 c3 c4 c5 c6 : Value} {t : TypeId} (h : w.heap[g]? = some (.cells #[c0, c1, c2, c3, c4, c5, c6] t (0, 0))) (v1 v2 v3 v4 : Value) (hb : Below B w0 w) (hB : B ≤ g) :
    ∃ u, u = ((((w.setCell ⟨g, 1, none⟩ v1).setCell ⟨g, 2, none⟩ v2).setCell ⟨g, 3, none⟩ v3).setCell ⟨g, 4, none⟩ v4) ∧ u.heap[g]? = some (.cells #[c0, v1, v2, v3, v4, c5, c6] t (0, 0)) ∧ Below B w0 u ∧ u.heap.size = w.heap.size ∧ ∀ b, b ≠ g → u.heap[b]? = w.heap[b]? := by
  refine ⟨_, rfl, ?_, (((hb.setCell hB _).setCell hB _).setCell hB _).setCell hB _, by simp [World.setCell], fun b hbg => ?_⟩
  · rw [heap_setCell_same _ g 4 _ t v4 (heap_setCell_same _ g 3 _ t v3 (heap_setCell_same _ g 2 _ t v2 (heap_setCell_same w g 1 _ t v1 h)))]
    rfl
  · rw [heap_setCell_other _ _ _ _ hbg, heap_setCell_other _ _ _ _ hbg, heap_setCell_other _ _ _ _ hbg, heap_setCell_other _ _ _ _ hbg]
/-- The source, read. -/
theorem PsLies.at {w : World} {vo : Option Addr} {n vc : Nat} {es : List Pe} (h : PsLies w (.slice vo n vc) es) {k : Nat} {e : Pe} (hk : es[k]? = some e) : ∃ b off, vo = some ⟨b, off, none⟩ ∧ ∀ u, Below w.heap.size w u → (u.cell? ⟨b, off + k * 7, none⟩ = some (.int .i64 e.ser) ∧ u.cell? ⟨b, off + k * 7 + 1, none⟩ = some (.int .i64 e.x.kind) ∧ u.cell? ⟨b, off + k * 7 + 2, none⟩ = some (.int .i64 e.x.n) ∧ u.cell? ⟨b, off + k * 7 + 3, none⟩ = some (.string e.x.s) ∧ u.cell? ⟨b, off + k * 7 + 4, none⟩ = some e.L ∧ u.cell? ⟨b, off + k * 7 + 5, none⟩ = some (.bool e.rc) ∧ u.cell? ⟨b, off + k * 7 + 6, none⟩ = some (.bool e.ab)) ∧ ILies u e.L e.x.l := by
  obtain ⟨b, off, cap, h1, h2⟩ := h.row.at hk
  cases h1
  refine ⟨b, off, rfl, fun u hu => ⟨?_, (h.own e (List.mem_of_getElem? hk)).below hu (Nat.le_refl _)⟩⟩
  have get : ∀ (j : Nat) x, e.cells[j]? = some x → u.cell? ⟨b, off + (k * 7 + j), none⟩ = some x := fun j x hj => by
    have := h2 j x hj
    rw [hu.cell (World.block_lt_of_cell? _ _ this)]
    exact this
  refine ⟨?_, ?_, ?_, ?_, ?_, ?_, ?_⟩
  · have := get 0 _ rfl; simpa using this
  · have := get 1 _ rfl; simpa [Nat.add_assoc] using this
  · have := get 2 _ rfl; simpa [Nat.add_assoc] using this
  · have := get 3 _ rfl; simpa [Nat.add_assoc] using this
  · have := get 4 _ rfl; simpa [Nat.add_assoc] using this
  · have := get 5 _ rfl; simpa [Nat.add_assoc] using this
  · have := get 6 _ rfl; simpa [Nat.add_assoc] using this
end Go.Proofs.YtncjaohiimenaabDoor
