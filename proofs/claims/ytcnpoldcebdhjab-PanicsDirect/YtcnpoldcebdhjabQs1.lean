/- Same values of a panic. -/
import Derived.Test.YtcnpoldcebdhjabPcrash
import Derived.Test.YtcnpoldcebdhjabSteady2
namespace Go.Proofs.Ytcnpoldcebdhjab
open Go.ChangeShapes Go.WideShapes Go.ChangeAt Go.RowKit
set_option maxRecDepth 100000
set_option linter.unusedSimpArgs false
set_option linter.unusedVariables false
theorem below2 (w : World) (o1 o2 : Obj) : Below w.heap.size w ((w.alloc o1).alloc o2) := ((Below.refl _ _).alloc (Nat.le_refl _) _).alloc (by simp) _
/-- One block alone has turned. -/
structure Sto (b : Nat) (u u' : World) : Prop where
  os : u'.os = u.os
  tape : u'.tape = u.tape
  output : u'.output = u.output
  size : u'.heap.size = u.heap.size
  other : ∀ k, k ≠ b → u'.heap[k]? = u.heap[k]?
theorem Sto.cell (u : World) (b o : Nat) (v : Value) : Sto b u (u.setCell ⟨b, o, none⟩ v) := ⟨rfl, rfl, rfl, by simp [World.setCell], fun k hk => Below.heap_setCell _ _ _ _ hk⟩
theorem Sto.trans {b : Nat} {u v w : World} (h : Sto b u v) (k : Sto b v w) : Sto b u w := ⟨k.os.trans h.os, k.tape.trans h.tape, k.output.trans h.output, k.size.trans h.size, fun i hi => (k.other i hi).trans (h.other i hi)⟩
theorem store4_sto (u : World) (b : Nat) (d0 d1 d2 d3 : Value) : Sto b u ((((u.setCell ⟨b, 0, none⟩ d0).setCell ⟨b, 1, none⟩ d1).setCell ⟨b, 2, none⟩ d2).setCell ⟨b, 3, none⟩ d3) :=
  (((Sto.cell u b 0 d0).trans (Sto.cell _ b 1 d1)).trans (Sto.cell _ b 2 d2)).trans (Sto.cell _ b 3 d3)
theorem store4 {u : World} {b : Nat} {c0 c1 c2 c3 : Value} {t : TypeId} (h : u.heap[b]? = some (.cells #[c0, c1, c2, c3] t (0, 0))) (d0 d1 d2 d3 : Value) :
    ((((u.setCell ⟨b, 0, none⟩ d0).setCell ⟨b, 1, none⟩ d1).setCell ⟨b, 2, none⟩ d2).setCell ⟨b, 3, none⟩ d3).heap[b]? = some (.cells #[d0, d1, d2, d3] t (0, 0)) := by
  simp [World.setCell, Array.getElem?_modify, h]
/-- Two boxes, each stored into by one operation. -/
structure Boxes (d : Nat → Bool) (i j b1 b2 : Nat) (ox ox' oy oy' : Obj) (w u : World) : Prop where
  x0 : d i = false → u.heap[b1]? = some ox
  x1 : d i = true → u.heap[b1]? = some ox'
  y0 : d j = false → u.heap[b2]? = some oy
  y1 : d j = true → u.heap[b2]? = some oy'
  below : Below w.heap.size w u
  size : b1 < u.heap.size ∧ b2 < u.heap.size ∧ b1 ≠ b2 ∧ w.heap.size ≤ b1 ∧ w.heap.size ≤ b2
section
variable {d : Nat → Bool} {i j b1 b2 k : Nat} {ox ox' oy oy' : Obj} {w u u' : World}
theorem updB_ne (h : i ≠ k) : updB d k i = d i := by simp only [updB]; rw [if_neg h]
theorem updB_eq : updB d k k = true := by simp [updB]
theorem Boxes.same (h : Boxes d i j b1 b2 ox ox' oy oy' w u) (hi : i ≠ k) (hj : j ≠ k) : Boxes (updB d k) i j b1 b2 ox ox' oy oy' w u :=
  ⟨fun e => h.x0 (by rwa [updB_ne hi] at e), fun e => h.x1 (by rwa [updB_ne hi] at e), fun e => h.y0 (by rwa [updB_ne hj] at e), fun e => h.y1 (by rwa [updB_ne hj] at e), h.below, h.size⟩
theorem Boxes.grow (h : Boxes d i j b1 b2 ox ox' oy oy' w u) (hb : Below u.heap.size u u') (hi : i ≠ k) (hj : j ≠ k) : Boxes (updB d k) i j b1 b2 ox ox' oy oy' w u' := by
  have e1 := hb.block b1 h.size.1
  have e2 := hb.block b2 h.size.2.1
  have hs := hb.size
  have h2 := h.size
  exact ⟨fun e => e1.trans (h.x0 (by rwa [updB_ne hi] at e)), fun e => e1.trans (h.x1 (by rwa [updB_ne hi] at e)), fun e => e2.trans (h.y0 (by rwa [updB_ne hj] at e)), fun e => e2.trans (h.y1 (by rwa [updB_ne hj] at e)), h.below.trans (hb.mono h.below.size), by omega⟩
theorem Sto.below {b B : Nat} (h : Sto b u u') (hw : Below B w u) (hb : B ≤ b) : Below B w u' :=
  hw.trans ⟨h.os, h.tape, h.output, by rw [h.size]; exact Nat.le_refl _, fun i hi => h.other i (by omega)⟩
theorem Boxes.storeX (h : Boxes d i j b1 b2 ox ox' oy oy' w u) (hij : j ≠ i) (hx : u'.heap[b1]? = some ox') (hs : Sto b1 u u') : Boxes (updB d i) i j b1 b2 ox ox' oy oy' w u' := by
  have h2 := h.size
  have e2 := hs.other b2 (by omega)
  refine ⟨fun e => (by rw [updB_eq] at e; cases e), fun _ => hx, fun e => e2.trans (h.y0 (by rwa [updB_ne hij] at e)), fun e => e2.trans (h.y1 (by rwa [updB_ne hij] at e)), hs.below h.below (by omega), by rw [hs.size]; exact h2⟩
theorem Boxes.storeY (h : Boxes d i j b1 b2 ox ox' oy oy' w u) (hij : i ≠ j) (hx : u'.heap[b2]? = some oy') (hs : Sto b2 u u') : Boxes (updB d j) i j b1 b2 ox ox' oy oy' w u' := by
  have h2 := h.size
  have e1 := hs.other b1 (by omega)
  refine ⟨fun e => e1.trans (h.x0 (by rwa [updB_ne hij] at e)), fun e => e1.trans (h.x1 (by rwa [updB_ne hij] at e)), fun e => (by rw [updB_eq] at e; cases e), fun _ => hx, hs.below h.below (by omega), by rw [hs.size]; exact h2⟩
end

set_option maxHeartbeats 4000000 in
theorem own_noints (w : World) : Calls Try.prog 16 #[.slice none 0 0, .slice none 0 0] w fun e w' => e = .returned (.bool true) ∧ ∃ n, w' = w.drewN n := by
  go_enter Try.func16, Try.ntmps16
  go_wp2_with fail
  go_loopw [13] (fun i wr => i = .int .i64 0 ∧ Hid (∃ q, wr = w.drewN q)) (fun _ _ => 0)
  case atStart => exact ⟨rfl, 0, rfl⟩
  case round =>
    obtain ⟨rfl, HW⟩ := hrel
    obtain ⟨q, rfl⟩ := HW.out
    go_wp2_with fail
    go_ret
    exact ⟨rfl, q, rfl⟩
set_option maxHeartbeats 8000000 in
theorem own_sameP (v : Pv) (w : World) :
    Calls Try.prog 10 #[v.val, v.val] w fun e w' => e = .returned (.bool true) ∧ Below w.heap.size w w' := by
  have HU : Hid (∀ u, Calls Try.prog 15 #[.agg #[.int .i64 v.k, .int .i64 v.n, .string v.s, .slice none 0 0]] u fun e w' => e = .returned (.agg #[.int .i64 v.k, .int .i64 v.n, .string v.s, .slice none 0 0]) ∧ Below u.heap.size u w') := fun u => by
    have h := own_usedP v.k v.n v.s none 0 0 u v.k_ok
    rw [Pv.of_self] at h
    exact h
  have HI : Hid (∀ u, Calls Try.prog 16 #[.slice none 0 0, .slice none 0 0] u fun e w' => e = .returned (.bool true) ∧ ∃ n, w' = u.drewN n) := fun u => own_noints u
  unfold Pv.val
  go_enter Try.func10, Try.ntmps10
  go_wp2_with fail
  refine wp_steady2 (fun d u => Boxes d 4 5 w.heap.size (w.heap.size + 1) (.cells #[.int .i64 v.k, .int .i64 v.n, .string v.s, .slice none 0 0] 26) (.cells #[.int .i64 v.k, .int .i64 v.n, .string v.s, .slice none 0 0] 26) (.cells #[.int .i64 v.k, .int .i64 v.n, .string v.s, .slice none 0 0] 26) (.cells #[.int .i64 v.k, .int .i64 v.n, .string v.s, .slice none 0 0] 26) w u) (atR [isV (.agg #[.int .i64 v.k, .int .i64 v.n, .string v.s, .slice none 0 0]), isV (.agg #[.int .i64 v.k, .int .i64 v.n, .string v.s, .slice none 0 0]), isV (.agg #[.int .i64 v.k, .int .i64 v.n, .string v.s, .slice none 0 0]), isV (.agg #[.int .i64 v.k, .int .i64 v.n, .string v.s, .slice none 0 0]), anyV, anyV]) (fun _ _ => True) (by kernel_rfl) (fun i v w w' _ h2 => by rcases i with _ | _ | _ | _ | _ | _ | i <;> first | exact h2 | trivial) (by kernel_rfl) (by kernel_rfl) ⟨fun _ => (two_boxes (Below.refl _ _)).1, (fun e => by cases e), fun _ => (two_boxes (Below.refl _ _)).2.1, (fun e => by cases e), (below2 w _ _).drew, by simp <;> omega⟩ ?_ ?_
  · refine stepsOK2_cons (fun f d u hG hn hd hno K hK => ?_) (stepsOK2_cons (fun f d u hG hn hd hno K hK => ?_) (stepsOK2_cons (fun f d u hG hn hd hno K hK => ?_) (stepsOK2_cons (fun f d u hG hn hd hno K hK => ?_) (stepsOK2_cons (fun f d u hG hn hd hno K hK => ?_) (stepsOK2_cons (fun f d u hG hn hd hno K hK => ?_) stepsOK2_nil)))))
    · obtain ⟨⟨c0, c1, c2, c3⟩, _⟩ := box4 (hG.x0 (hno 4 (by kernel_rfl)))
      refine wanted_on rfl ?_
      simp only [putAll, Act.put, List.setIfInBounds_toArray, List.set_cons_zero, List.set_cons_succ] at hK ⊢
      go_simp
      exact hK _ _ _ rfl (hG.same (by decide) (by decide)) trivial rfl
    · have e0 : f 0 = (.agg #[.int .i64 v.k, .int .i64 v.n, .string v.s, .slice none 0 0]) := (hd 0 (by kernel_rfl)).2
      refine wanted_on rfl ?_
      simp only [putAll, Act.put, List.setIfInBounds_toArray, List.set_cons_zero, List.set_cons_succ, e0] at hK ⊢
      go_simp
      refine (HU.out u).mono ?_
      rintro e u1 ⟨rfl, hb⟩
      exact hK _ _ _ rfl (hG.grow hb (by decide) (by decide)) trivial rfl
    · obtain ⟨⟨c0, c1, c2, c3⟩, _⟩ := box4 (hG.y0 (hno 5 (by kernel_rfl)))
      refine wanted_on rfl ?_
      simp only [putAll, Act.put, List.setIfInBounds_toArray, List.set_cons_zero, List.set_cons_succ] at hK ⊢
      go_simp
      exact hK _ _ _ rfl (hG.same (by decide) (by decide)) trivial rfl
    · have e2 : f 2 = (.agg #[.int .i64 v.k, .int .i64 v.n, .string v.s, .slice none 0 0]) := (hd 2 (by kernel_rfl)).2
      refine wanted_on rfl ?_
      simp only [putAll, Act.put, List.setIfInBounds_toArray, List.set_cons_zero, List.set_cons_succ, e2] at hK ⊢
      go_simp
      refine (HU.out u).mono ?_
      rintro e u1 ⟨rfl, hb⟩
      exact hK _ _ _ rfl (hG.grow hb (by decide) (by decide)) trivial rfl
    · have e1 : f 1 = (.agg #[.int .i64 v.k, .int .i64 v.n, .string v.s, .slice none 0 0]) := (hd 1 (by kernel_rfl)).2
      have hh := hG.x0 hn
      obtain ⟨⟨c0, c1, c2, c3⟩, g0, g1, g2, g3⟩ := box4 hh
      refine wanted_on rfl ?_
      simp only [putAll, Act.put, List.setIfInBounds_toArray, List.set_cons_zero, List.set_cons_succ, e1] at hK ⊢
      go_simp
      exact hK _ undef _ rfl (hG.storeX (by decide) (store4 hh _ _ _ _) (store4_sto _ _ _ _ _ _)) trivial trivial
    · have e3 : f 3 = (.agg #[.int .i64 v.k, .int .i64 v.n, .string v.s, .slice none 0 0]) := (hd 3 (by kernel_rfl)).2
      have hh := hG.y0 hn
      obtain ⟨⟨c0, c1, c2, c3⟩, g0, g1, g2, g3⟩ := box4 hh
      refine wanted_on rfl ?_
      simp only [putAll, Act.put, List.setIfInBounds_toArray, List.set_cons_zero, List.set_cons_succ, e3] at hK ⊢
      go_simp
      exact hK _ undef _ rfl (hG.storeY (by decide) (store4 hh _ _ _ _) (store4_sto _ _ _ _ _ _)) trivial trivial
  · intro f d u hG hf
    have hh1 := hG.x1 (hf 4 (by decide)).1
    have hh2 := hG.y1 (hf 5 (by decide)).1
    obtain ⟨⟨c0, c1, c2, c3⟩, _⟩ := box4 hh1
    obtain ⟨⟨d0, d1, d2, d3⟩, _⟩ := box4 hh2
    have HBB : Hid _ := hG.below
    simp only [putAll, Act.put, List.setIfInBounds_toArray, List.set_cons_zero, List.set_cons_succ]
    clear hf hG hh1 hh2 HU
    go_wp2_with fail
    refine (HI.out u).mono ?_
    rintro e w1 ⟨rfl, q, rfl⟩
    go_wp2_with fail
    go_ret
    exact ⟨rfl, HBB.out.trans ⟨rfl, rfl, rfl, Nat.le_refl _, fun _ _ => rfl⟩⟩
end Go.Proofs.Ytcnpoldcebdhjab
