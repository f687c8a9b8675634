/-
  For every value that comes in and is of bulk at most 1048576, value changes nothing that is handed in, and Plain answers memory of its own: the law's function returns true; the library's tables hold at the start what the program's text lays (the card ties them).
-/
import Derived.Test.YtjfmhppgjhgdaabDoorVmem
import Derived.Stop.LaidErr
import Derived.Test.YtjfmhppgjhgdaabDoorVcame
import Derived.JoinedCond
import Derived.Test.YtjfmhppgjhgdaabDoorVsmall
import Derived.Test.YtjfmhppgjhgdaabDoorCards
import Derived.Test.YtjfmhppgjhgdaabDoorTie
import Derived.Deep.DeepHandedRow
import Derived.Lib.LaidTab
import Derived.SizedLaws
import Derived.Deep.DeepWitnessRowRef
namespace Go.Proofs.YtjfmhppgjhgdaabDoor.valueMemory
open Go.ChangeShapes Go.WideShapes Go.ChangeAt Go.RowKit
open Go.WideMaps Go.WideElems
open Go.ChangeMaps (open_string shut_string)
set_option linter.unusedVariables false
set_option maxRecDepth 100000

theorem own : ownKnob Tryd.prog.godebug = none := by kernel_rfl

theorem pow_tab : Lib.pow10Tab = [1, 10, 100, 1000, 10000, 100000, 1000000, 10000000, 100000000, 1000000000, 10000000000, 100000000000, 1000000000000, 10000000000000, 100000000000000, 1000000000000000, 10000000000000000, 100000000000000000, 1000000000000000000, 10000000000000000000] := by decide
theorem pow_of {W : World} (h : laidMetH Tryd.prog Rows.valueMemoryRow.laid W) : Pow W := by
  have h0 : laidMet Tryd.prog Rows.valueMemoryRow.laid W := h
  unfold Pow
  rw [pow_tab]
  exact Lib.tabIs_of_head Tryd.gPow (by kernel_rfl) Tryd.underlying64 Tryd.underlying58 (by kernel_rfl) (by kernel_rfl) h0.tail.tail

set_option maxHeartbeats 40000000 in
theorem walk (x0 : Vv) (L0 : Value) (w : World) (i0 : VIn x0) (m0 : ILies w L0 x0.l) (b0 : x0.s.size ≤ 1048576 ∧ x0.l.length ≤ 1048576) (hp : Pow w) :
    Calls Tryd.prog 3 #[vval x0 L0] w fun e w' => e = .returned (.bool true) ∧ Below w.heap.size w w' := by
  obtain ⟨lo, lc, hL⟩ := m0.shape
  subst hL
  have HRM : Hid (Calls Tryd.prog 7 #[.slice lo x0.l.length lc] ((w.alloc (.cells #[.int .i64 x0.kind, .int .i64 x0.n, .string x0.s, .slice lo x0.l.length lc] 24)).alloc (.cells #[.int .i64 x0.kind, .int .i64 x0.n, .string x0.s, .slice lo x0.l.length lc] 24)) fun e w' => e = .returned (.slice (some ⟨w.heap.size + 2, 0, none⟩) x0.l.length (x0.l.length + 2)) ∧ Room w' (w.heap.size + 2) x0.l ∧ Below ((w.alloc (.cells #[.int .i64 x0.kind, .int .i64 x0.n, .string x0.s, .slice lo x0.l.length lc] 24)).alloc (.cells #[.int .i64 x0.kind, .int .i64 x0.n, .string x0.s, .slice lo x0.l.length lc] 24)).heap.size ((w.alloc (.cells #[.int .i64 x0.kind, .int .i64 x0.n, .string x0.s, .slice lo x0.l.length lc] 24)).alloc (.cells #[.int .i64 x0.kind, .int .i64 x0.n, .string x0.s, .slice lo x0.l.length lc] 24)) w') := by
    have h := own_roomy x0.l (.slice lo x0.l.length lc) ((w.alloc (.cells #[.int .i64 x0.kind, .int .i64 x0.n, .string x0.s, .slice lo x0.l.length lc] 24)).alloc (.cells #[.int .i64 x0.kind, .int .i64 x0.n, .string x0.s, .slice lo x0.l.length lc] 24)) (m0.below (below2 w _ _) (Nat.le_refl _)) b0.2
    have e : ((w.alloc (.cells #[.int .i64 x0.kind, .int .i64 x0.n, .string x0.s, .slice lo x0.l.length lc] 24)).alloc (.cells #[.int .i64 x0.kind, .int .i64 x0.n, .string x0.s, .slice lo x0.l.length lc] 24)).heap.size = w.heap.size + 2 := by simp
    simp only [e] at h ⊢
    exact h
  have hlen := b0.2
  unfold vval
  go_enter Tryd.func3, Tryd.ntmps3
  go_wp2_with fail
  refine Calls.mono HRM.out ?_
  rintro e u1 ⟨rfl, hrm, hb1⟩
  obtain ⟨hh1, hh2, hz, hbb⟩ := two_boxes hb1
  obtain ⟨⟨c0, c1, c2, c3⟩, f0, f1, f2, f3⟩ := box4 hh2
  have HW0 : Hid (∃ WR : World, WR = u1.setCell ⟨w.heap.size + 1, 3, none⟩ (.slice (some ⟨w.heap.size + 2, 0, none⟩) x0.l.length (x0.l.length + 2)) ∧ (∀ u, Below WR.heap.size WR u → u.heap[w.heap.size]? = some (.cells #[.int .i64 x0.kind, .int .i64 x0.n, .string x0.s, .slice lo x0.l.length lc] 24) ∧ u.heap[w.heap.size + 1]? = some (.cells #[.int .i64 x0.kind, .int .i64 x0.n, .string x0.s, .slice (some ⟨w.heap.size + 2, 0, none⟩) x0.l.length (x0.l.length + 2)] 24) ∧ Room u (w.heap.size + 2) x0.l ∧ ILies u (.slice lo x0.l.length lc) x0.l ∧ Below w.heap.size w u)) := by
    have hst : Sto (w.heap.size + 1) u1 (u1.setCell ⟨w.heap.size + 1, 3, none⟩ (.slice (some ⟨w.heap.size + 2, 0, none⟩) x0.l.length (x0.l.length + 2))) := Sto.cell _ _ _ _
    have hsz : (u1.setCell ⟨w.heap.size + 1, 3, none⟩ (.slice (some ⟨w.heap.size + 2, 0, none⟩) x0.l.length (x0.l.length + 2))).heap.size = u1.heap.size := hst.size
    have h2 : w.heap.size + 2 < u1.heap.size := (Array.getElem?_eq_some_iff.1 hrm).1
    refine ⟨_, rfl, fun u hb => ?_⟩
    rw [hsz] at hb
    have hbw : Below w.heap.size w (u1.setCell ⟨w.heap.size + 1, 3, none⟩ (.slice (some ⟨w.heap.size + 2, 0, none⟩) x0.l.length (x0.l.length + 2))) := hst.below hbb (by omega)
    refine ⟨?_, ?_, ?_, ?_, hbw.trans (hb.mono (by omega))⟩
    · rw [hb.block _ (by omega), hst.other _ (by omega)]; exact hh1
    · rw [hb.block _ (by omega)]; simp [World.setCell, Array.getElem?_modify, hh2]
    · show u.heap[w.heap.size + 2]? = _
      rw [hb.block _ (by omega), hst.other _ (by omega)]; exact hrm
    · exact (m0.below hbw (Nat.le_refl _)).below (hb.mono (by omega)) (Nat.le_refl _)
  obtain ⟨WR, hWR, hwr⟩ := HW0.out
  have HW : Hid _ := hwr
  have HWE : Hid _ := hWR
  clear HW0 hwr hWR hrm hb1 hbb hh1 hh2 hz HRM
  go_wp2_with fail
  rw [← HWE.out]
  clear HWE c0 c1 c2 c3 f0 f1 f2 f3
  have HPL : Hid (∀ u, Below WR.heap.size WR u → Calls Tryd.prog 8 #[.agg #[.int .i64 x0.kind, .int .i64 x0.n, .string x0.s, .slice (some ⟨w.heap.size + 2, 0, none⟩) x0.l.length (x0.l.length + 2)]] u fun e w' => ∃ L', e = .returned (vval (plainV x0) L') ∧ w'.ownsRow (u.heap.size + 2) 3 1 L' (plainV x0).l.length ((plainV x0).l.map (Value.int .i64)) ∧ Below u.heap.size u w') := fun u hb => own_plain2 x0 (.slice (some ⟨w.heap.size + 2, 0, none⟩) x0.l.length (x0.l.length + 2)) u i0 ((HW.out u hb).2.2.1.lies b0.2)
  have HSH : Hid (∀ u : World, Below WR.heap.size WR u → Calls Tryd.prog 9 #[.agg #[.int .i64 x0.kind, .int .i64 x0.n, .string x0.s, .slice (some ⟨w.heap.size + 2, 0, none⟩) x0.l.length (x0.l.length + 2)]] u fun e w' => (∃ T, e = .returned (.string T)) ∧ Below u.heap.size u w') := fun u hb => (own_show x0 (.slice (some ⟨w.heap.size + 2, 0, none⟩) x0.l.length (x0.l.length + 2)) u i0 ((HW.out u hb).2.2.1.lies b0.2) (fun _ => by omega) (hp.below (HW.out u hb).2.2.2.2)).mono fun e w' h => ⟨⟨_, h.1⟩, h.2⟩
  have HLN : Hid (∀ u : World, Below WR.heap.size WR u → Calls Tryd.prog 10 #[.slice (some ⟨u.heap.size, 0, none⟩) 1 1] (u.alloc (.cells #[.int .i64 x0.kind, .int .i64 x0.n, .string x0.s, .slice (some ⟨w.heap.size + 2, 0, none⟩) x0.l.length (x0.l.length + 2)] 24)) fun e w' => (∃ T, e = .returned (.string T)) ∧ Below (u.alloc (.cells #[.int .i64 x0.kind, .int .i64 x0.n, .string x0.s, .slice (some ⟨w.heap.size + 2, 0, none⟩) x0.l.length (x0.l.length + 2)] 24)).heap.size (u.alloc (.cells #[.int .i64 x0.kind, .int .i64 x0.n, .string x0.s, .slice (some ⟨w.heap.size + 2, 0, none⟩) x0.l.length (x0.l.length + 2)] 24)) w') := fun u hb => by
    have hb2 : Below WR.heap.size WR (u.alloc (.cells #[.int .i64 x0.kind, .int .i64 x0.n, .string x0.s, .slice (some ⟨w.heap.size + 2, 0, none⟩) x0.l.length (x0.l.length + 2)] 24)) := hb.trans (show_below.mono hb.size)
    refine (own_line _ [⟨x0, .slice (some ⟨w.heap.size + 2, 0, none⟩) x0.l.length (x0.l.length + 2)⟩] (u.alloc (.cells #[.int .i64 x0.kind, .int .i64 x0.n, .string x0.s, .slice (some ⟨w.heap.size + 2, 0, none⟩) x0.l.length (x0.l.length + 2)] 24)) (.inr ⟨⟨u.heap.size, 0, none⟩, 1, rfl, by simp, fun _ => rfl, fun k e hk j v hv => ?_⟩) ⟨fun e he => ?_, by simp⟩ (hp.below (HW.out _ hb2).2.2.2.2)).mono fun e w' h => ⟨⟨_, h.1⟩, h.2⟩
    · have hk0 : k = 0 := by
        have := (List.getElem?_eq_some_iff.1 hk).1
        simpa using this
      subst hk0
      simp at hk
      subst hk
      rw [Nat.zero_mul, Nat.zero_add]
      exact cells_new j v hv
    · simp at he
      subst he
      exact ⟨i0, (HW.out _ hb2).2.2.1.lies b0.2, b0.1, b0.2⟩
  have HPX0 : Hid (∀ u : World, Calls Tryd.prog 8 #[.agg #[.int .i64 6, .int .i64 0, .string ⟨#[]⟩, .slice (some ⟨u.heap.size, 0, none⟩) 1 1]] (u.alloc (.cells #[.int .i64 1] 3)) fun e w' => ∃ L', e = .returned (vval ⟨6, 0, ⟨#[]⟩, [1]⟩ L') ∧ w'.ownsRow ((u.alloc (.cells #[.int .i64 1] 3)).heap.size + 2) 3 1 L' 1 [.int .i64 1] ∧ Below (u.alloc (.cells #[.int .i64 1] 3)).heap.size (u.alloc (.cells #[.int .i64 1] 3)) w') := fun u => by
    have h := own_plain2 ⟨6, 0, ⟨#[]⟩, [1]⟩ (.slice (some ⟨u.heap.size, 0, none⟩) 1 1) (u.alloc (.cells #[.int .i64 1] 3)) ⟨by decide, by decide, by decide, (fun i h => by simp at h; subst h; decide), by decide⟩ (.inr ⟨⟨u.heap.size, 0, none⟩, 1, rfl, by simp, by decide, fun _ => rfl, fun k i hk => ?_⟩)
    · rw [show plainV ⟨6, 0, ⟨#[]⟩, [1]⟩ = ⟨6, 0, ⟨#[]⟩, [1]⟩ by simp [plainV]] at h
      exact h
    · have hk0 : k = 0 := by
        have := (List.getElem?_eq_some_iff.1 hk).1
        simpa using this
      subst hk0
      simp at hk
      subst hk
      exact cell_one_new _ _ _ 0 _ rfl
  have HPX : Hid (∀ (u : World) (o : Obj), Calls Tryd.prog 8 #[.agg #[.int .i64 6, .int .i64 0, .string ⟨#[]⟩, .slice (some ⟨u.heap.size + 1, 0, none⟩) 1 1]] ((u.alloc o).alloc (.cells #[.int .i64 1] 3)) fun e w' => ∃ xo xc, e = .returned (.agg #[.int .i64 6, .int .i64 0, .string ⟨#[]⟩, .slice xo 1 xc]) ∧ Below (u.alloc o).heap.size (u.alloc o) w') := fun u o => by
    have h := HPX0.out (u.alloc o)
    have e : (u.alloc o).heap.size = u.heap.size + 1 := by simp
    rw [e] at h
    refine h.mono ?_
    rintro e2 w' ⟨L', rfl, hrow, hb⟩
    obtain ⟨xo, xc, rfl⟩ := row_slice hrow
    exact ⟨xo, xc, rfl, below_up hb⟩
  clear HPX0
  have hpl : (plainV x0).l.length ≤ 1048576 := Nat.le_trans (plain_len x0) b0.2
  have HLN6 : Hid (x0.kind = 6 → (plainV x0).l = x0.l) := fun h => by simp [plainV, h]
  generalize plainV x0 = y at *
  refine (HPL.out WR (Below.refl _ _)).mono ?_
  rintro e u2 ⟨P, rfl, hP, hb2⟩
  obtain ⟨po, pc, rfl⟩ := row_slice hP
  have HRP : Hid (u2.ownsRow WR.heap.size 3 1 (.slice po y.l.length pc) y.l.length (y.l.map (Value.int .i64))) := owns_mono hP (by omega)
  have HB2 : Hid (Below WR.heap.size WR (u2.alloc (.cells #[.int .i64 y.kind, .int .i64 y.n, .string y.s, .slice po y.l.length pc] 24))) := hb2.trans (show_below.mono hb2.size)
  clear hP hb2
  unfold vval
  obtain ⟨⟨c0, c1, c2, c3⟩, _⟩ := box4 (HW.out _ HB2.out).2.1
  go_wp2_with fail
  refine (HSH.out _ HB2.out).mono ?_
  rintro e u3 ⟨⟨T3, rfl⟩, hb3⟩
  have HB3 : Hid (Below WR.heap.size WR u3) := HB2.out.trans (hb3.mono HB2.out.size)
  have HP3 : Hid (u3.heap[u2.heap.size]? = some (.cells #[.int .i64 y.kind, .int .i64 y.n, .string y.s, .slice po y.l.length pc] 24)) := box_stays hb3
  have HR3 : Hid (u3.ownsRow WR.heap.size 3 1 (.slice po y.l.length pc) y.l.length (y.l.map (Value.int .i64))) := owns_on (owns_on HRP.out show_below) hb3
  clear hb3 HRP HB2 c0 c1 c2 c3
  obtain ⟨⟨c0, c1, c2, c3⟩, _⟩ := box4 (HW.out _ HB3.out).2.1
  go_wp2_with fail
  refine (HLN.out u3 HB3.out).mono ?_
  rintro e u4 ⟨⟨T4, rfl⟩, hb4⟩
  have HB4 : Hid (Below WR.heap.size WR u4) := (HB3.out.trans (show_below.mono HB3.out.size)).trans (hb4.mono (HB3.out.trans (show_below.mono HB3.out.size)).size)
  have HP4 : Hid (u4.heap[u2.heap.size]? = some (.cells #[.int .i64 y.kind, .int .i64 y.n, .string y.s, .slice po y.l.length pc] 24)) := by
    have hlt := (Array.getElem?_eq_some_iff.1 HP3.out).1
    show u4.heap[u2.heap.size]? = _
    rw [(below_up hb4).block _ hlt]; exact HP3.out
  have HR4 : Hid (u4.ownsRow WR.heap.size 3 1 (.slice po y.l.length pc) y.l.length (y.l.map (Value.int .i64))) := owns_on HR3.out (below_up hb4)
  clear hb4 HR3 HP3 HB3 c0 c1 c2 c3
  obtain ⟨⟨d0, d1, d2, d3⟩, _⟩ := box4 HP4.out
  go_wp2_with fail
  refine (own_scribble _ _ WR.heap.size _ u4 HR4.out HB4.out.size hpl).mono ?_
  rintro e u5 ⟨rfl, hb5⟩
  have HB5 : Hid (Below WR.heap.size WR u5) := HB4.out.trans hb5
  clear hb5 HR4 HP4 HB4 d0 d1 d2 d3
  obtain ⟨⟨c0, c1, c2, c3⟩, _⟩ := box4 (HW.out _ HB5.out).2.1
  go_wp2_with fail
  refine (HPL.out u5 HB5.out).mono ?_
  rintro e u6 ⟨Qv, rfl, hQ, hb6⟩
  obtain ⟨qo, qc, rfl⟩ := row_slice hQ
  have HLQ : Hid (ILies u6 (.slice qo y.l.length qc) y.l) := ILies.row hQ
  have HB6 : Hid (Below WR.heap.size WR u6) := HB5.out.trans (hb6.mono HB5.out.size)
  clear hQ hb6 HB5 c0 c1 c2 c3
  unfold vval
  go_wp2_with fail
  refine (HPX.out u6 _).mono ?_
  rintro e u7 ⟨xo, xc, rfl, hb7⟩
  have HB7 : Hid (Below (u6.alloc (.cells #[.int .i64 y.kind, .int .i64 y.n, .string y.s, .slice qo y.l.length qc] 24)).heap.size (u6.alloc (.cells #[.int .i64 y.kind, .int .i64 y.n, .string y.s, .slice qo y.l.length qc] 24)) u7) := hb7
  clear hb7
  have HF : Hid (∀ u, Below (u7.alloc (.cells #[.int .i64 6, .int .i64 0, .string ⟨#[]⟩, .slice xo 1 xc] 24)).heap.size (u7.alloc (.cells #[.int .i64 6, .int .i64 0, .string ⟨#[]⟩, .slice xo 1 xc] 24)) u → u.heap[w.heap.size]? = some (.cells #[.int .i64 x0.kind, .int .i64 x0.n, .string x0.s, .slice lo x0.l.length lc] 24) ∧ u.heap[w.heap.size + 1]? = some (.cells #[.int .i64 x0.kind, .int .i64 x0.n, .string x0.s, .slice (some ⟨w.heap.size + 2, 0, none⟩) x0.l.length (x0.l.length + 2)] 24) ∧ u.heap[u6.heap.size]? = some (.cells #[.int .i64 y.kind, .int .i64 y.n, .string y.s, .slice qo y.l.length qc] 24) ∧ u.heap[u7.heap.size]? = some (.cells #[.int .i64 6, .int .i64 0, .string ⟨#[]⟩, .slice xo 1 xc] 24) ∧ Room u (w.heap.size + 2) x0.l ∧ ILies u (.slice lo x0.l.length lc) x0.l ∧ Below w.heap.size w u ∧ ILies u (.slice qo y.l.length qc) y.l) := fun u h => by
    have h1 := below_up h
    have h2 := below_up HB7.out
    have s6 := HB6.out.size
    have s7 := h2.size
    have hw7 : Below WR.heap.size WR u := (HB6.out.trans (h2.mono s6)).trans (h1.mono (by omega))
    have hq7 : u7.heap[u6.heap.size]? = some (.cells #[.int .i64 y.kind, .int .i64 y.n, .string y.s, .slice qo y.l.length qc] 24) := box_stays HB7.out
    refine ⟨(HW.out u hw7).1, (HW.out u hw7).2.1, ?_, box_stays h, (HW.out u hw7).2.2.1, (HW.out u hw7).2.2.2.1, (HW.out u hw7).2.2.2.2, (HLQ.out.below h2 (Nat.le_refl _)).below h1 (Nat.le_refl _)⟩
    rw [h1.block _ (Array.getElem?_eq_some_iff.1 hq7).1]; exact hq7
  clear HLQ HB6 HB7 HW HPL HSH HLN HPX
  go_wp2_with fail
  have HST : Hid (∀ u, Below (u7.alloc (.cells #[.int .i64 6, .int .i64 0, .string ⟨#[]⟩, .slice xo 1 xc] 24)).heap.size (u7.alloc (.cells #[.int .i64 6, .int .i64 0, .string ⟨#[]⟩, .slice xo 1 xc] 24)) u → Calls Tryd.prog 12 #[.slice (some ⟨w.heap.size + 2, 0, none⟩) x0.l.length (x0.l.length + 2), .slice lo x0.l.length lc] u fun e w' => e = .returned (.bool true) ∧ ∃ m, w' = u.drewN m) := fun u h => own_stayed x0.l _ _ u (HF.out u h).2.2.2.2.2.1 (HF.out u h).2.2.2.2.1 hlen
  clear hp m0 i0 b0 hpl
  by_cases h6 : x0.kind = 6
  · have hyl := HLN6.out h6
    rw [hyl, h6] at HF
    rw [hyl, h6]
    clear h6 hyl HLN6
    by_cases hl : x0.l = []
    · have HNL : Hid (x0.l = []) := hl
      clear hl
      refine wp_grow [isV (.pointer (some ⟨u7.heap.size, 3, none⟩)), isV (.slice xo 1 xc), isV (.int .i64 1), isV (.bool true), isV (.bool true), isV (.pointer (some ⟨w.heap.size + 1, 3, none⟩)), isV (.slice (some ⟨w.heap.size + 2, 0, none⟩) x0.l.length (x0.l.length + 2)), isV (.pointer (some ⟨w.heap.size, 3, none⟩)), isV (.slice lo x0.l.length lc), isV (.bool true), isV (.bool true), isV (.bool true), isV (.pointer (some ⟨w.heap.size, 0, none⟩)), isV (.int .i64 6), isV (.bool false), isV (.bool false), isV (.pointer (some ⟨u6.heap.size, 3, none⟩)), isV (.slice qo x0.l.length qc), isV (.int .i64 x0.l.length), isV (.pointer (some ⟨w.heap.size, 3, none⟩)), isV (.slice lo x0.l.length lc), isV (.int .i64 x0.l.length), isV (.bool true), isV (.bool true), isV (.pointer (some ⟨w.heap.size, 3, none⟩)), isV (.slice lo x0.l.length lc), isV (.int .i64 x0.l.length), isV (.bool true), isV (.bool true), isV undef, isV undef, isV undef, isV undef, isV undef, isV undef, isV undef, isV undef, isV undef, isV (.bool true), isV (.bool true), isV (.bool true), isV (.bool true), isV (.bool true)]
        ⟨stab_is _, stab_is _, stab_is _, stab_is _, stab_is _, stab_is _, stab_is _, stab_is _, stab_is _, stab_is _, stab_is _, stab_is _, stab_is _, stab_is _, stab_is _, stab_is _, stab_is _, stab_is _, stab_is _, stab_is _, stab_is _, stab_is _, stab_is _, stab_is _, stab_is _, stab_is _, stab_is _, stab_is _, stab_is _, stab_is _, stab_is _, stab_is _, stab_is _, stab_is _, stab_is _, stab_is _, stab_is _, stab_is _, stab_is _, stab_is _, stab_is _, stab_is _, stab_is _, trivial⟩ (by kernel_rfl) (by kernel_rfl) (by kernel_rfl) ?_ ?_
      · refine stepsOK_cons (fun f u hG hd K hK => ?_) (stepsOK_cons (fun f u hG hd K hK => ?_) (stepsOK_cons (fun f u hG hd K hK => ?_) (stepsOK_cons (fun f u hG hd K hK => ?_) (stepsOK_cons (fun f u hG hd K hK => ?_) (stepsOK_cons (fun f u hG hd K hK => ?_) (stepsOK_cons (fun f u hG hd K hK => ?_) (stepsOK_cons (fun f u hG hd K hK => ?_) (stepsOK_cons (fun f u hG hd K hK => ?_) (stepsOK_cons (fun f u hG hd K hK => ?_) (stepsOK_cons (fun f u hG hd K hK => ?_) (stepsOK_cons (fun f u hG hd K hK => ?_) (stepsOK_cons (fun f u hG hd K hK => ?_) (stepsOK_cons (fun f u hG hd K hK => ?_) (stepsOK_cons (fun f u hG hd K hK => ?_) (stepsOK_cons (fun f u hG hd K hK => ?_) (stepsOK_cons (fun f u hG hd K hK => ?_) (stepsOK_cons (fun f u hG hd K hK => ?_) (stepsOK_cons (fun f u hG hd K hK => ?_) (stepsOK_cons (fun f u hG hd K hK => ?_) (stepsOK_cons (fun f u hG hd K hK => ?_) (stepsOK_cons (fun f u hG hd K hK => ?_) (stepsOK_cons (fun f u hG hd K hK => ?_) (stepsOK_cons (fun f u hG hd K hK => ?_) (stepsOK_cons (fun f u hG hd K hK => ?_) (stepsOK_cons (fun f u hG hd K hK => ?_) (stepsOK_cons (fun f u hG hd K hK => ?_) (stepsOK_cons (fun f u hG hd K hK => ?_) (stepsOK_cons (fun f u hG hd K hK => ?_) (stepsOK_cons (fun f u hG hd K hK => ?_) (stepsOK_cons (fun f u hG hd K hK => ?_) (stepsOK_cons (fun f u hG hd K hK => ?_) (stepsOK_cons (fun f u hG hd K hK => ?_) (stepsOK_cons (fun f u hG hd K hK => ?_) (stepsOK_cons (fun f u hG hd K hK => ?_) (stepsOK_cons (fun f u hG hd K hK => ?_) (stepsOK_cons (fun f u hG hd K hK => ?_) (stepsOK_cons (fun f u hG hd K hK => ?_) (stepsOK_cons (fun f u hG hd K hK => ?_) (stepsOK_cons (fun f u hG hd K hK => ?_) (stepsOK_cons (fun f u hG hd K hK => ?_) (stepsOK_cons (fun f u hG hd K hK => ?_) (stepsOK_cons (fun f u hG hd K hK => ?_) stepsOK_nil))))))))))))))))))))))))))))))))))))))))))
        · refine wanted_on rfl ?_
          simp only [putAll, Act.put, List.setIfInBounds_toArray, List.set_cons_zero, List.set_cons_succ] at hK ⊢
          go_simp
          exact hK _ _ _ rfl hG (Below.refl _ _) rfl
        · have e0 : f 0 = (.pointer (some ⟨u7.heap.size, 3, none⟩)) := hd 0 (by kernel_rfl)
          obtain ⟨⟨c0, c1, c2, c3⟩, _⟩ := box4 ((HF.out _ hG).2.2.2.1)
          refine wanted_on rfl ?_
          simp only [putAll, Act.put, List.setIfInBounds_toArray, List.set_cons_zero, List.set_cons_succ, e0] at hK ⊢
          go_simp
          exact hK _ _ _ rfl hG (Below.refl _ _) rfl
        · have e1 : f 1 = (.slice xo 1 xc) := hd 1 (by kernel_rfl)
          refine wanted_on rfl ?_
          simp only [putAll, Act.put, List.setIfInBounds_toArray, List.set_cons_zero, List.set_cons_succ, e1] at hK ⊢
          go_simp
          exact hK _ _ _ rfl hG (Below.refl _ _) rfl
        · have e2 : f 2 = (.int .i64 1) := hd 2 (by kernel_rfl)
          refine wanted_on rfl ?_
          simp only [putAll, Act.put, List.setIfInBounds_toArray, List.set_cons_zero, List.set_cons_succ, e2] at hK ⊢
          go_simp
          exact hK _ _ _ rfl hG (Below.refl _ _) rfl
        · have e3 : f 3 = (.bool true) := hd 3 (by kernel_rfl)
          refine wanted_on rfl ?_
          simp only [putAll, Act.put, List.setIfInBounds_toArray, List.set_cons_zero, List.set_cons_succ, e3] at hK ⊢
          go_simp
          exact hK _ _ _ rfl hG (Below.refl _ _) rfl
        · have e4 : f 4 = (.bool true) := hd 4 (by kernel_rfl)
          refine wanted_on (by simp [Region.wanted, yielded, putAll, Act.put, List.setIfInBounds_toArray, List.set_cons_zero, List.set_cons_succ, e4]) ?_
          simp only [putAll, Act.put, List.setIfInBounds_toArray, List.set_cons_zero, List.set_cons_succ, e4] at hK ⊢
          go_simp
          exact hK _ _ _ rfl hG (Below.refl _ _) rfl
        · have e4 : f 4 = (.bool true) := hd 4 (by kernel_rfl)
          have e5 : f 5 = (.pointer (some ⟨w.heap.size + 1, 3, none⟩)) := hd 5 (by kernel_rfl)
          obtain ⟨⟨c0, c1, c2, c3⟩, _⟩ := box4 ((HF.out _ hG).2.1)
          refine wanted_on (by simp [Region.wanted, yielded, putAll, Act.put, List.setIfInBounds_toArray, List.set_cons_zero, List.set_cons_succ, e4, e5]) ?_
          simp only [putAll, Act.put, List.setIfInBounds_toArray, List.set_cons_zero, List.set_cons_succ, e4, e5] at hK ⊢
          go_simp
          exact hK _ _ _ rfl hG (Below.refl _ _) rfl
        · have e4 : f 4 = (.bool true) := hd 4 (by kernel_rfl)
          refine wanted_on (by simp [Region.wanted, yielded, putAll, Act.put, List.setIfInBounds_toArray, List.set_cons_zero, List.set_cons_succ, e4]) ?_
          simp only [putAll, Act.put, List.setIfInBounds_toArray, List.set_cons_zero, List.set_cons_succ, e4] at hK ⊢
          go_simp
          exact hK _ _ _ rfl hG (Below.refl _ _) rfl
        · have e4 : f 4 = (.bool true) := hd 4 (by kernel_rfl)
          have e7 : f 7 = (.pointer (some ⟨w.heap.size, 3, none⟩)) := hd 7 (by kernel_rfl)
          obtain ⟨⟨c0, c1, c2, c3⟩, _⟩ := box4 ((HF.out _ hG).1)
          refine wanted_on (by simp [Region.wanted, yielded, putAll, Act.put, List.setIfInBounds_toArray, List.set_cons_zero, List.set_cons_succ, e4, e7]) ?_
          simp only [putAll, Act.put, List.setIfInBounds_toArray, List.set_cons_zero, List.set_cons_succ, e4, e7] at hK ⊢
          go_simp
          exact hK _ _ _ rfl hG (Below.refl _ _) rfl
        · have e4 : f 4 = (.bool true) := hd 4 (by kernel_rfl)
          have e6 : f 6 = (.slice (some ⟨w.heap.size + 2, 0, none⟩) x0.l.length (x0.l.length + 2)) := hd 6 (by kernel_rfl)
          have e8 : f 8 = (.slice lo x0.l.length lc) := hd 8 (by kernel_rfl)
          refine wanted_on (by simp [Region.wanted, yielded, putAll, Act.put, List.setIfInBounds_toArray, List.set_cons_zero, List.set_cons_succ, e4, e6, e8]) ?_
          simp only [putAll, Act.put, List.setIfInBounds_toArray, List.set_cons_zero, List.set_cons_succ, e4, e6, e8] at hK ⊢
          go_simp
          refine (HST.out u hG).mono ?_
          rintro e u1 ⟨rfl, m, rfl⟩
          have hb : Below u.heap.size u (u.drewN m) := ⟨rfl, rfl, rfl, Nat.le_refl _, fun _ _ => rfl⟩
          exact hK _ _ _ rfl (hG.trans (hb.mono hG.size)) hb rfl
        · have e4 : f 4 = (.bool true) := hd 4 (by kernel_rfl)
          have e9 : f 9 = (.bool true) := hd 9 (by kernel_rfl)
          refine wanted_on rfl ?_
          simp only [putAll, Act.put, List.setIfInBounds_toArray, List.set_cons_zero, List.set_cons_succ, e4, e9] at hK ⊢
          go_simp
          exact hK _ _ _ rfl hG (Below.refl _ _) rfl
        · have e10 : f 10 = (.bool true) := hd 10 (by kernel_rfl)
          refine wanted_on rfl ?_
          simp only [putAll, Act.put, List.setIfInBounds_toArray, List.set_cons_zero, List.set_cons_succ, e10] at hK ⊢
          go_simp
          exact hK _ _ _ rfl hG (Below.refl _ _) rfl
        · have e11 : f 11 = (.bool true) := hd 11 (by kernel_rfl)
          refine wanted_on (by simp [Region.wanted, yielded, putAll, Act.put, List.setIfInBounds_toArray, List.set_cons_zero, List.set_cons_succ, e11]) ?_
          simp only [putAll, Act.put, List.setIfInBounds_toArray, List.set_cons_zero, List.set_cons_succ, e11] at hK ⊢
          go_simp
          exact hK _ _ _ rfl hG (Below.refl _ _) rfl
        · have e11 : f 11 = (.bool true) := hd 11 (by kernel_rfl)
          have e12 : f 12 = (.pointer (some ⟨w.heap.size, 0, none⟩)) := hd 12 (by kernel_rfl)
          obtain ⟨⟨c0, c1, c2, c3⟩, _⟩ := box4 ((HF.out _ hG).1)
          refine wanted_on (by simp [Region.wanted, yielded, putAll, Act.put, List.setIfInBounds_toArray, List.set_cons_zero, List.set_cons_succ, e11, e12]) ?_
          simp only [putAll, Act.put, List.setIfInBounds_toArray, List.set_cons_zero, List.set_cons_succ, e11, e12] at hK ⊢
          go_simp
          exact hK _ _ _ rfl hG (Below.refl _ _) rfl
        · have e11 : f 11 = (.bool true) := hd 11 (by kernel_rfl)
          have e13 : f 13 = (.int .i64 6) := hd 13 (by kernel_rfl)
          refine wanted_on (by simp [Region.wanted, yielded, putAll, Act.put, List.setIfInBounds_toArray, List.set_cons_zero, List.set_cons_succ, e11, e13]) ?_
          simp only [putAll, Act.put, List.setIfInBounds_toArray, List.set_cons_zero, List.set_cons_succ, e11, e13] at hK ⊢
          go_simp
          exact hK _ _ _ rfl hG (Below.refl _ _) rfl
        · have e11 : f 11 = (.bool true) := hd 11 (by kernel_rfl)
          have e14 : f 14 = (.bool false) := hd 14 (by kernel_rfl)
          refine wanted_on (by simp [Region.wanted, yielded, putAll, Act.put, List.setIfInBounds_toArray, List.set_cons_zero, List.set_cons_succ, e11, e14]) ?_
          simp only [putAll, Act.put, List.setIfInBounds_toArray, List.set_cons_zero, List.set_cons_succ, e11, e14] at hK ⊢
          go_simp
          exact hK _ _ _ rfl hG (Below.refl _ _) rfl
        · have e15 : f 15 = (.bool false) := hd 15 (by kernel_rfl)
          refine wanted_on (by simp [Region.wanted, yielded, putAll, Act.put, List.setIfInBounds_toArray, List.set_cons_zero, List.set_cons_succ, e15]) ?_
          simp only [putAll, Act.put, List.setIfInBounds_toArray, List.set_cons_zero, List.set_cons_succ, e15] at hK ⊢
          go_simp
          exact hK _ _ _ rfl hG (Below.refl _ _) rfl
        · have e15 : f 15 = (.bool false) := hd 15 (by kernel_rfl)
          have e16 : f 16 = (.pointer (some ⟨u6.heap.size, 3, none⟩)) := hd 16 (by kernel_rfl)
          obtain ⟨⟨c0, c1, c2, c3⟩, _⟩ := box4 ((HF.out _ hG).2.2.1)
          refine wanted_on (by simp [Region.wanted, yielded, putAll, Act.put, List.setIfInBounds_toArray, List.set_cons_zero, List.set_cons_succ, e15, e16]) ?_
          simp only [putAll, Act.put, List.setIfInBounds_toArray, List.set_cons_zero, List.set_cons_succ, e15, e16] at hK ⊢
          go_simp
          exact hK _ _ _ rfl hG (Below.refl _ _) rfl
        · have e15 : f 15 = (.bool false) := hd 15 (by kernel_rfl)
          have e17 : f 17 = (.slice qo x0.l.length qc) := hd 17 (by kernel_rfl)
          refine wanted_on (by simp [Region.wanted, yielded, putAll, Act.put, List.setIfInBounds_toArray, List.set_cons_zero, List.set_cons_succ, e15, e17]) ?_
          simp only [putAll, Act.put, List.setIfInBounds_toArray, List.set_cons_zero, List.set_cons_succ, e15, e17] at hK ⊢
          go_simp
          exact hK _ _ _ rfl hG (Below.refl _ _) rfl
        · have e15 : f 15 = (.bool false) := hd 15 (by kernel_rfl)
          refine wanted_on (by simp [Region.wanted, yielded, putAll, Act.put, List.setIfInBounds_toArray, List.set_cons_zero, List.set_cons_succ, e15]) ?_
          simp only [putAll, Act.put, List.setIfInBounds_toArray, List.set_cons_zero, List.set_cons_succ, e15] at hK ⊢
          go_simp
          exact hK _ _ _ rfl hG (Below.refl _ _) rfl
        · have e15 : f 15 = (.bool false) := hd 15 (by kernel_rfl)
          have e19 : f 19 = (.pointer (some ⟨w.heap.size, 3, none⟩)) := hd 19 (by kernel_rfl)
          obtain ⟨⟨c0, c1, c2, c3⟩, _⟩ := box4 ((HF.out _ hG).1)
          refine wanted_on (by simp [Region.wanted, yielded, putAll, Act.put, List.setIfInBounds_toArray, List.set_cons_zero, List.set_cons_succ, e15, e19]) ?_
          simp only [putAll, Act.put, List.setIfInBounds_toArray, List.set_cons_zero, List.set_cons_succ, e15, e19] at hK ⊢
          go_simp
          exact hK _ _ _ rfl hG (Below.refl _ _) rfl
        · have e15 : f 15 = (.bool false) := hd 15 (by kernel_rfl)
          have e20 : f 20 = (.slice lo x0.l.length lc) := hd 20 (by kernel_rfl)
          refine wanted_on (by simp [Region.wanted, yielded, putAll, Act.put, List.setIfInBounds_toArray, List.set_cons_zero, List.set_cons_succ, e15, e20]) ?_
          simp only [putAll, Act.put, List.setIfInBounds_toArray, List.set_cons_zero, List.set_cons_succ, e15, e20] at hK ⊢
          go_simp
          exact hK _ _ _ rfl hG (Below.refl _ _) rfl
        · have e15 : f 15 = (.bool false) := hd 15 (by kernel_rfl)
          have e18 : f 18 = (.int .i64 x0.l.length) := hd 18 (by kernel_rfl)
          have e21 : f 21 = (.int .i64 x0.l.length) := hd 21 (by kernel_rfl)
          refine wanted_on (by simp [Region.wanted, yielded, putAll, Act.put, List.setIfInBounds_toArray, List.set_cons_zero, List.set_cons_succ, e15, e18, e21]) ?_
          simp only [putAll, Act.put, List.setIfInBounds_toArray, List.set_cons_zero, List.set_cons_succ, e15, e18, e21] at hK ⊢
          go_simp
          exact hK _ _ _ rfl hG (Below.refl _ _) (by simp [isV, atR])
        · have e15 : f 15 = (.bool false) := hd 15 (by kernel_rfl)
          have e22 : f 22 = (.bool true) := hd 22 (by kernel_rfl)
          refine wanted_on (by simp [Region.wanted, yielded, putAll, Act.put, List.setIfInBounds_toArray, List.set_cons_zero, List.set_cons_succ, e15, e22]) ?_
          simp only [putAll, Act.put, List.setIfInBounds_toArray, List.set_cons_zero, List.set_cons_succ, e15, e22] at hK ⊢
          go_simp
          exact hK _ _ _ rfl hG (Below.refl _ _) rfl
        · have e23 : f 23 = (.bool true) := hd 23 (by kernel_rfl)
          refine wanted_on (by simp [Region.wanted, yielded, putAll, Act.put, List.setIfInBounds_toArray, List.set_cons_zero, List.set_cons_succ, e23]) ?_
          simp only [putAll, Act.put, List.setIfInBounds_toArray, List.set_cons_zero, List.set_cons_succ, e23] at hK ⊢
          go_simp
          exact hK _ _ _ rfl hG (Below.refl _ _) rfl
        · have e23 : f 23 = (.bool true) := hd 23 (by kernel_rfl)
          have e24 : f 24 = (.pointer (some ⟨w.heap.size, 3, none⟩)) := hd 24 (by kernel_rfl)
          obtain ⟨⟨c0, c1, c2, c3⟩, _⟩ := box4 ((HF.out _ hG).1)
          refine wanted_on (by simp [Region.wanted, yielded, putAll, Act.put, List.setIfInBounds_toArray, List.set_cons_zero, List.set_cons_succ, e23, e24]) ?_
          simp only [putAll, Act.put, List.setIfInBounds_toArray, List.set_cons_zero, List.set_cons_succ, e23, e24] at hK ⊢
          go_simp
          exact hK _ _ _ rfl hG (Below.refl _ _) rfl
        · have e23 : f 23 = (.bool true) := hd 23 (by kernel_rfl)
          have e25 : f 25 = (.slice lo x0.l.length lc) := hd 25 (by kernel_rfl)
          refine wanted_on (by simp [Region.wanted, yielded, putAll, Act.put, List.setIfInBounds_toArray, List.set_cons_zero, List.set_cons_succ, e23, e25]) ?_
          simp only [putAll, Act.put, List.setIfInBounds_toArray, List.set_cons_zero, List.set_cons_succ, e23, e25] at hK ⊢
          go_simp
          exact hK _ _ _ rfl hG (Below.refl _ _) rfl
        · have e23 : f 23 = (.bool true) := hd 23 (by kernel_rfl)
          have e26 : f 26 = (.int .i64 x0.l.length) := hd 26 (by kernel_rfl)
          refine wanted_on (by simp [Region.wanted, yielded, putAll, Act.put, List.setIfInBounds_toArray, List.set_cons_zero, List.set_cons_succ, e23, e26]) ?_
          simp only [putAll, Act.put, List.setIfInBounds_toArray, List.set_cons_zero, List.set_cons_succ, e23, e26] at hK ⊢
          go_simp
          exact hK _ _ _ rfl hG (Below.refl _ _) (by simp [isV, atR, HNL.out])
        · have e23 : f 23 = (.bool true) := hd 23 (by kernel_rfl)
          have e27 : f 27 = (.bool true) := hd 27 (by kernel_rfl)
          refine wanted_on (by simp [Region.wanted, yielded, putAll, Act.put, List.setIfInBounds_toArray, List.set_cons_zero, List.set_cons_succ, e23, e27]) ?_
          simp only [putAll, Act.put, List.setIfInBounds_toArray, List.set_cons_zero, List.set_cons_succ, e23, e27] at hK ⊢
          go_simp
          exact hK _ _ _ rfl hG (Below.refl _ _) rfl
        · have e28 : f 28 = (.bool true) := hd 28 (by kernel_rfl)
          refine wanted_off (by simp [Region.wanted, yielded, undef, putAll, Act.put, List.setIfInBounds_toArray, List.set_cons_zero, List.set_cons_succ, e28]) ?_
          exact hK _ _ _ rfl hG (Below.refl _ _) (by first | trivial | rfl)
        · have e28 : f 28 = (.bool true) := hd 28 (by kernel_rfl)
          have e29 : f 29 = undef := hd 29 (by kernel_rfl)
          refine wanted_off (by simp [Region.wanted, yielded, undef, putAll, Act.put, List.setIfInBounds_toArray, List.set_cons_zero, List.set_cons_succ, e28, e29]) ?_
          exact hK _ _ _ rfl hG (Below.refl _ _) (by first | trivial | rfl)
        · have e28 : f 28 = (.bool true) := hd 28 (by kernel_rfl)
          have e30 : f 30 = undef := hd 30 (by kernel_rfl)
          refine wanted_off (by simp [Region.wanted, yielded, undef, putAll, Act.put, List.setIfInBounds_toArray, List.set_cons_zero, List.set_cons_succ, e28, e30]) ?_
          exact hK _ _ _ rfl hG (Below.refl _ _) (by first | trivial | rfl)
        · have e28 : f 28 = (.bool true) := hd 28 (by kernel_rfl)
          have e31 : f 31 = undef := hd 31 (by kernel_rfl)
          refine wanted_off (by simp [Region.wanted, yielded, undef, putAll, Act.put, List.setIfInBounds_toArray, List.set_cons_zero, List.set_cons_succ, e28, e31]) ?_
          exact hK _ _ _ rfl hG (Below.refl _ _) (by first | trivial | rfl)
        · have e28 : f 28 = (.bool true) := hd 28 (by kernel_rfl)
          refine wanted_off (by simp [Region.wanted, yielded, undef, putAll, Act.put, List.setIfInBounds_toArray, List.set_cons_zero, List.set_cons_succ, e28]) ?_
          exact hK _ _ _ rfl hG (Below.refl _ _) (by first | trivial | rfl)
        · have e28 : f 28 = (.bool true) := hd 28 (by kernel_rfl)
          have e33 : f 33 = undef := hd 33 (by kernel_rfl)
          refine wanted_off (by simp [Region.wanted, yielded, undef, putAll, Act.put, List.setIfInBounds_toArray, List.set_cons_zero, List.set_cons_succ, e28, e33]) ?_
          exact hK _ _ _ rfl hG (Below.refl _ _) (by first | trivial | rfl)
        · have e28 : f 28 = (.bool true) := hd 28 (by kernel_rfl)
          have e34 : f 34 = undef := hd 34 (by kernel_rfl)
          refine wanted_off (by simp [Region.wanted, yielded, undef, putAll, Act.put, List.setIfInBounds_toArray, List.set_cons_zero, List.set_cons_succ, e28, e34]) ?_
          exact hK _ _ _ rfl hG (Below.refl _ _) (by first | trivial | rfl)
        · have e28 : f 28 = (.bool true) := hd 28 (by kernel_rfl)
          have e35 : f 35 = undef := hd 35 (by kernel_rfl)
          refine wanted_off (by simp [Region.wanted, yielded, undef, putAll, Act.put, List.setIfInBounds_toArray, List.set_cons_zero, List.set_cons_succ, e28, e35]) ?_
          exact hK _ _ _ rfl hG (Below.refl _ _) (by first | trivial | rfl)
        · have e28 : f 28 = (.bool true) := hd 28 (by kernel_rfl)
          have e32 : f 32 = undef := hd 32 (by kernel_rfl)
          have e36 : f 36 = undef := hd 36 (by kernel_rfl)
          refine wanted_off (by simp [Region.wanted, yielded, undef, putAll, Act.put, List.setIfInBounds_toArray, List.set_cons_zero, List.set_cons_succ, e28, e32, e36]) ?_
          exact hK _ _ _ rfl hG (Below.refl _ _) (by first | trivial | rfl)
        · have e23 : f 23 = (.bool true) := hd 23 (by kernel_rfl)
          have e28 : f 28 = (.bool true) := hd 28 (by kernel_rfl)
          have e37 : f 37 = undef := hd 37 (by kernel_rfl)
          refine wanted_on (by simp [Region.wanted, yielded, putAll, Act.put, List.setIfInBounds_toArray, List.set_cons_zero, List.set_cons_succ, e23, e28, e37]) ?_
          simp only [putAll, Act.put, List.setIfInBounds_toArray, List.set_cons_zero, List.set_cons_succ, e23, e28, e37] at hK ⊢
          go_simp
          exact hK _ _ _ rfl hG (Below.refl _ _) rfl
        · have e15 : f 15 = (.bool false) := hd 15 (by kernel_rfl)
          have e23 : f 23 = (.bool true) := hd 23 (by kernel_rfl)
          have e38 : f 38 = (.bool true) := hd 38 (by kernel_rfl)
          refine wanted_on (by simp [Region.wanted, yielded, putAll, Act.put, List.setIfInBounds_toArray, List.set_cons_zero, List.set_cons_succ, e15, e23, e38]) ?_
          simp only [putAll, Act.put, List.setIfInBounds_toArray, List.set_cons_zero, List.set_cons_succ, e15, e23, e38] at hK ⊢
          go_simp
          exact hK _ _ _ rfl hG (Below.refl _ _) rfl
        · have e11 : f 11 = (.bool true) := hd 11 (by kernel_rfl)
          have e15 : f 15 = (.bool false) := hd 15 (by kernel_rfl)
          have e39 : f 39 = (.bool true) := hd 39 (by kernel_rfl)
          refine wanted_on (by simp [Region.wanted, yielded, putAll, Act.put, List.setIfInBounds_toArray, List.set_cons_zero, List.set_cons_succ, e11, e15, e39]) ?_
          simp only [putAll, Act.put, List.setIfInBounds_toArray, List.set_cons_zero, List.set_cons_succ, e11, e15, e39] at hK ⊢
          go_simp
          exact hK _ _ _ rfl hG (Below.refl _ _) rfl
        · have e11 : f 11 = (.bool true) := hd 11 (by kernel_rfl)
          have e40 : f 40 = (.bool true) := hd 40 (by kernel_rfl)
          refine wanted_on rfl ?_
          simp only [putAll, Act.put, List.setIfInBounds_toArray, List.set_cons_zero, List.set_cons_succ, e11, e40] at hK ⊢
          go_simp
          exact hK _ _ _ rfl hG (Below.refl _ _) rfl
        · have e41 : f 41 = (.bool true) := hd 41 (by kernel_rfl)
          refine wanted_on rfl ?_
          simp only [putAll, Act.put, List.setIfInBounds_toArray, List.set_cons_zero, List.set_cons_succ, e41] at hK ⊢
          go_simp
          exact hK _ _ _ rfl hG (Below.refl _ _) rfl
      · intro f u hG hf
        have e42 : f 42 = .bool true := hf 42 (by decide)
        have HBB : Hid _ := (HF.out _ hG).2.2.2.2.2.2.1
        simp only [putAll, Act.put, List.setIfInBounds_toArray, List.set_cons_zero, List.set_cons_succ, e42]
        clear hf e42 hG HF HST
        go_wp2_with fail
        go_ret
        exact ⟨rfl, HBB.out⟩
    · have hpos : 0 < x0.l.length := by
        rcases Nat.eq_zero_or_pos x0.l.length with h | h
        · exact absurd (List.eq_nil_of_length_eq_zero h) hl
        · exact h
      obtain ⟨lb, lf, lc2, hla, -⟩ := (HF.out _ (Below.refl _ _)).2.2.2.2.2.1.at hpos
      obtain ⟨qb, qf, qc2, hqa, -⟩ := (HF.out _ (Below.refl _ _)).2.2.2.2.2.2.2.at hpos
      simp only [Value.slice.injEq] at hla hqa
      obtain ⟨rfl, -, -⟩ := hla
      obtain ⟨rfl, -, -⟩ := hqa
      have HL0' : Hid (∀ u, Below (u7.alloc (.cells #[.int .i64 6, .int .i64 0, .string ⟨#[]⟩, .slice xo 1 xc] 24)).heap.size (u7.alloc (.cells #[.int .i64 6, .int .i64 0, .string ⟨#[]⟩, .slice xo 1 xc] 24)) u → u.cell? ⟨lb, lf, none⟩ = some (.int .i64 x0.l[0])) := fun u h => by
        obtain ⟨b, f, c, e, hx⟩ := (HF.out u h).2.2.2.2.2.1.at hpos
        simp only [Value.slice.injEq, Option.some.injEq, Addr.mk.injEq] at e
        obtain ⟨⟨rfl, rfl, -⟩, -, -⟩ := e
        simpa using hx
      have HQ0' : Hid (∀ u, Below (u7.alloc (.cells #[.int .i64 6, .int .i64 0, .string ⟨#[]⟩, .slice xo 1 xc] 24)).heap.size (u7.alloc (.cells #[.int .i64 6, .int .i64 0, .string ⟨#[]⟩, .slice xo 1 xc] 24)) u → u.cell? ⟨qb, qf, none⟩ = some (.int .i64 x0.l[0])) := fun u h => by
        obtain ⟨b, f, c, e, hx⟩ := (HF.out u h).2.2.2.2.2.2.2.at hpos
        simp only [Value.slice.injEq, Option.some.injEq, Addr.mk.injEq] at e
        obtain ⟨⟨rfl, rfl, -⟩, -, -⟩ := e
        simpa using hx
      obtain ⟨p, hp0⟩ : ∃ p, x0.l[0] = p := ⟨_, rfl⟩
      have HL0 : Hid _ := HL0'.out
      have HQ0 : Hid _ := HQ0'.out
      rw [hp0] at HL0 HQ0
      have HNE : Hid (¬ x0.l = []) := hl
      have HLT : Hid (0 < x0.l.length) := hpos
      clear HL0' HQ0' hp0 hl hpos
      refine wp_grow [isV (.pointer (some ⟨u7.heap.size, 3, none⟩)), isV (.slice xo 1 xc), isV (.int .i64 1), isV (.bool true), isV (.bool true), isV (.pointer (some ⟨w.heap.size + 1, 3, none⟩)), isV (.slice (some ⟨w.heap.size + 2, 0, none⟩) x0.l.length (x0.l.length + 2)), isV (.pointer (some ⟨w.heap.size, 3, none⟩)), isV (.slice (some ⟨lb, lf, none⟩) x0.l.length lc), isV (.bool true), isV (.bool true), isV (.bool true), isV (.pointer (some ⟨w.heap.size, 0, none⟩)), isV (.int .i64 6), isV (.bool false), isV (.bool false), isV (.pointer (some ⟨u6.heap.size, 3, none⟩)), isV (.slice (some ⟨qb, qf, none⟩) x0.l.length qc), isV (.int .i64 x0.l.length), isV (.pointer (some ⟨w.heap.size, 3, none⟩)), isV (.slice (some ⟨lb, lf, none⟩) x0.l.length lc), isV (.int .i64 x0.l.length), isV (.bool true), isV (.bool true), isV (.pointer (some ⟨w.heap.size, 3, none⟩)), isV (.slice (some ⟨lb, lf, none⟩) x0.l.length lc), isV (.int .i64 x0.l.length), isV (.bool false), isV (.bool false), isV (.pointer (some ⟨u6.heap.size, 3, none⟩)), isV (.slice (some ⟨qb, qf, none⟩) x0.l.length qc), isV (.pointer (some ⟨qb, qf, none⟩)), isV (.int .i64 p), isV (.pointer (some ⟨w.heap.size, 3, none⟩)), isV (.slice (some ⟨lb, lf, none⟩) x0.l.length lc), isV (.pointer (some ⟨lb, lf, none⟩)), isV (.int .i64 p), isV (.bool true), isV (.bool true), isV (.bool true), isV (.bool true), isV (.bool true), isV (.bool true)]
        ⟨stab_is _, stab_is _, stab_is _, stab_is _, stab_is _, stab_is _, stab_is _, stab_is _, stab_is _, stab_is _, stab_is _, stab_is _, stab_is _, stab_is _, stab_is _, stab_is _, stab_is _, stab_is _, stab_is _, stab_is _, stab_is _, stab_is _, stab_is _, stab_is _, stab_is _, stab_is _, stab_is _, stab_is _, stab_is _, stab_is _, stab_is _, stab_is _, stab_is _, stab_is _, stab_is _, stab_is _, stab_is _, stab_is _, stab_is _, stab_is _, stab_is _, stab_is _, stab_is _, trivial⟩ (by kernel_rfl) (by kernel_rfl) (by kernel_rfl) ?_ ?_
      · refine stepsOK_cons (fun f u hG hd K hK => ?_) (stepsOK_cons (fun f u hG hd K hK => ?_) (stepsOK_cons (fun f u hG hd K hK => ?_) (stepsOK_cons (fun f u hG hd K hK => ?_) (stepsOK_cons (fun f u hG hd K hK => ?_) (stepsOK_cons (fun f u hG hd K hK => ?_) (stepsOK_cons (fun f u hG hd K hK => ?_) (stepsOK_cons (fun f u hG hd K hK => ?_) (stepsOK_cons (fun f u hG hd K hK => ?_) (stepsOK_cons (fun f u hG hd K hK => ?_) (stepsOK_cons (fun f u hG hd K hK => ?_) (stepsOK_cons (fun f u hG hd K hK => ?_) (stepsOK_cons (fun f u hG hd K hK => ?_) (stepsOK_cons (fun f u hG hd K hK => ?_) (stepsOK_cons (fun f u hG hd K hK => ?_) (stepsOK_cons (fun f u hG hd K hK => ?_) (stepsOK_cons (fun f u hG hd K hK => ?_) (stepsOK_cons (fun f u hG hd K hK => ?_) (stepsOK_cons (fun f u hG hd K hK => ?_) (stepsOK_cons (fun f u hG hd K hK => ?_) (stepsOK_cons (fun f u hG hd K hK => ?_) (stepsOK_cons (fun f u hG hd K hK => ?_) (stepsOK_cons (fun f u hG hd K hK => ?_) (stepsOK_cons (fun f u hG hd K hK => ?_) (stepsOK_cons (fun f u hG hd K hK => ?_) (stepsOK_cons (fun f u hG hd K hK => ?_) (stepsOK_cons (fun f u hG hd K hK => ?_) (stepsOK_cons (fun f u hG hd K hK => ?_) (stepsOK_cons (fun f u hG hd K hK => ?_) (stepsOK_cons (fun f u hG hd K hK => ?_) (stepsOK_cons (fun f u hG hd K hK => ?_) (stepsOK_cons (fun f u hG hd K hK => ?_) (stepsOK_cons (fun f u hG hd K hK => ?_) (stepsOK_cons (fun f u hG hd K hK => ?_) (stepsOK_cons (fun f u hG hd K hK => ?_) (stepsOK_cons (fun f u hG hd K hK => ?_) (stepsOK_cons (fun f u hG hd K hK => ?_) (stepsOK_cons (fun f u hG hd K hK => ?_) (stepsOK_cons (fun f u hG hd K hK => ?_) (stepsOK_cons (fun f u hG hd K hK => ?_) (stepsOK_cons (fun f u hG hd K hK => ?_) (stepsOK_cons (fun f u hG hd K hK => ?_) (stepsOK_cons (fun f u hG hd K hK => ?_) stepsOK_nil))))))))))))))))))))))))))))))))))))))))))
        · refine wanted_on rfl ?_
          simp only [putAll, Act.put, List.setIfInBounds_toArray, List.set_cons_zero, List.set_cons_succ] at hK ⊢
          go_simp
          exact hK _ _ _ rfl hG (Below.refl _ _) rfl
        · have e0 : f 0 = (.pointer (some ⟨u7.heap.size, 3, none⟩)) := hd 0 (by kernel_rfl)
          obtain ⟨⟨c0, c1, c2, c3⟩, _⟩ := box4 ((HF.out _ hG).2.2.2.1)
          refine wanted_on rfl ?_
          simp only [putAll, Act.put, List.setIfInBounds_toArray, List.set_cons_zero, List.set_cons_succ, e0] at hK ⊢
          go_simp
          exact hK _ _ _ rfl hG (Below.refl _ _) rfl
        · have e1 : f 1 = (.slice xo 1 xc) := hd 1 (by kernel_rfl)
          refine wanted_on rfl ?_
          simp only [putAll, Act.put, List.setIfInBounds_toArray, List.set_cons_zero, List.set_cons_succ, e1] at hK ⊢
          go_simp
          exact hK _ _ _ rfl hG (Below.refl _ _) rfl
        · have e2 : f 2 = (.int .i64 1) := hd 2 (by kernel_rfl)
          refine wanted_on rfl ?_
          simp only [putAll, Act.put, List.setIfInBounds_toArray, List.set_cons_zero, List.set_cons_succ, e2] at hK ⊢
          go_simp
          exact hK _ _ _ rfl hG (Below.refl _ _) rfl
        · have e3 : f 3 = (.bool true) := hd 3 (by kernel_rfl)
          refine wanted_on rfl ?_
          simp only [putAll, Act.put, List.setIfInBounds_toArray, List.set_cons_zero, List.set_cons_succ, e3] at hK ⊢
          go_simp
          exact hK _ _ _ rfl hG (Below.refl _ _) rfl
        · have e4 : f 4 = (.bool true) := hd 4 (by kernel_rfl)
          refine wanted_on (by simp [Region.wanted, yielded, putAll, Act.put, List.setIfInBounds_toArray, List.set_cons_zero, List.set_cons_succ, e4]) ?_
          simp only [putAll, Act.put, List.setIfInBounds_toArray, List.set_cons_zero, List.set_cons_succ, e4] at hK ⊢
          go_simp
          exact hK _ _ _ rfl hG (Below.refl _ _) rfl
        · have e4 : f 4 = (.bool true) := hd 4 (by kernel_rfl)
          have e5 : f 5 = (.pointer (some ⟨w.heap.size + 1, 3, none⟩)) := hd 5 (by kernel_rfl)
          obtain ⟨⟨c0, c1, c2, c3⟩, _⟩ := box4 ((HF.out _ hG).2.1)
          refine wanted_on (by simp [Region.wanted, yielded, putAll, Act.put, List.setIfInBounds_toArray, List.set_cons_zero, List.set_cons_succ, e4, e5]) ?_
          simp only [putAll, Act.put, List.setIfInBounds_toArray, List.set_cons_zero, List.set_cons_succ, e4, e5] at hK ⊢
          go_simp
          exact hK _ _ _ rfl hG (Below.refl _ _) rfl
        · have e4 : f 4 = (.bool true) := hd 4 (by kernel_rfl)
          refine wanted_on (by simp [Region.wanted, yielded, putAll, Act.put, List.setIfInBounds_toArray, List.set_cons_zero, List.set_cons_succ, e4]) ?_
          simp only [putAll, Act.put, List.setIfInBounds_toArray, List.set_cons_zero, List.set_cons_succ, e4] at hK ⊢
          go_simp
          exact hK _ _ _ rfl hG (Below.refl _ _) rfl
        · have e4 : f 4 = (.bool true) := hd 4 (by kernel_rfl)
          have e7 : f 7 = (.pointer (some ⟨w.heap.size, 3, none⟩)) := hd 7 (by kernel_rfl)
          obtain ⟨⟨c0, c1, c2, c3⟩, _⟩ := box4 ((HF.out _ hG).1)
          refine wanted_on (by simp [Region.wanted, yielded, putAll, Act.put, List.setIfInBounds_toArray, List.set_cons_zero, List.set_cons_succ, e4, e7]) ?_
          simp only [putAll, Act.put, List.setIfInBounds_toArray, List.set_cons_zero, List.set_cons_succ, e4, e7] at hK ⊢
          go_simp
          exact hK _ _ _ rfl hG (Below.refl _ _) rfl
        · have e4 : f 4 = (.bool true) := hd 4 (by kernel_rfl)
          have e6 : f 6 = (.slice (some ⟨w.heap.size + 2, 0, none⟩) x0.l.length (x0.l.length + 2)) := hd 6 (by kernel_rfl)
          have e8 : f 8 = (.slice (some ⟨lb, lf, none⟩) x0.l.length lc) := hd 8 (by kernel_rfl)
          refine wanted_on (by simp [Region.wanted, yielded, putAll, Act.put, List.setIfInBounds_toArray, List.set_cons_zero, List.set_cons_succ, e4, e6, e8]) ?_
          simp only [putAll, Act.put, List.setIfInBounds_toArray, List.set_cons_zero, List.set_cons_succ, e4, e6, e8] at hK ⊢
          go_simp
          refine (HST.out u hG).mono ?_
          rintro e u1 ⟨rfl, m, rfl⟩
          have hb : Below u.heap.size u (u.drewN m) := ⟨rfl, rfl, rfl, Nat.le_refl _, fun _ _ => rfl⟩
          exact hK _ _ _ rfl (hG.trans (hb.mono hG.size)) hb rfl
        · have e4 : f 4 = (.bool true) := hd 4 (by kernel_rfl)
          have e9 : f 9 = (.bool true) := hd 9 (by kernel_rfl)
          refine wanted_on rfl ?_
          simp only [putAll, Act.put, List.setIfInBounds_toArray, List.set_cons_zero, List.set_cons_succ, e4, e9] at hK ⊢
          go_simp
          exact hK _ _ _ rfl hG (Below.refl _ _) rfl
        · have e10 : f 10 = (.bool true) := hd 10 (by kernel_rfl)
          refine wanted_on rfl ?_
          simp only [putAll, Act.put, List.setIfInBounds_toArray, List.set_cons_zero, List.set_cons_succ, e10] at hK ⊢
          go_simp
          exact hK _ _ _ rfl hG (Below.refl _ _) rfl
        · have e11 : f 11 = (.bool true) := hd 11 (by kernel_rfl)
          refine wanted_on (by simp [Region.wanted, yielded, putAll, Act.put, List.setIfInBounds_toArray, List.set_cons_zero, List.set_cons_succ, e11]) ?_
          simp only [putAll, Act.put, List.setIfInBounds_toArray, List.set_cons_zero, List.set_cons_succ, e11] at hK ⊢
          go_simp
          exact hK _ _ _ rfl hG (Below.refl _ _) rfl
        · have e11 : f 11 = (.bool true) := hd 11 (by kernel_rfl)
          have e12 : f 12 = (.pointer (some ⟨w.heap.size, 0, none⟩)) := hd 12 (by kernel_rfl)
          obtain ⟨⟨c0, c1, c2, c3⟩, _⟩ := box4 ((HF.out _ hG).1)
          refine wanted_on (by simp [Region.wanted, yielded, putAll, Act.put, List.setIfInBounds_toArray, List.set_cons_zero, List.set_cons_succ, e11, e12]) ?_
          simp only [putAll, Act.put, List.setIfInBounds_toArray, List.set_cons_zero, List.set_cons_succ, e11, e12] at hK ⊢
          go_simp
          exact hK _ _ _ rfl hG (Below.refl _ _) rfl
        · have e11 : f 11 = (.bool true) := hd 11 (by kernel_rfl)
          have e13 : f 13 = (.int .i64 6) := hd 13 (by kernel_rfl)
          refine wanted_on (by simp [Region.wanted, yielded, putAll, Act.put, List.setIfInBounds_toArray, List.set_cons_zero, List.set_cons_succ, e11, e13]) ?_
          simp only [putAll, Act.put, List.setIfInBounds_toArray, List.set_cons_zero, List.set_cons_succ, e11, e13] at hK ⊢
          go_simp
          exact hK _ _ _ rfl hG (Below.refl _ _) rfl
        · have e11 : f 11 = (.bool true) := hd 11 (by kernel_rfl)
          have e14 : f 14 = (.bool false) := hd 14 (by kernel_rfl)
          refine wanted_on (by simp [Region.wanted, yielded, putAll, Act.put, List.setIfInBounds_toArray, List.set_cons_zero, List.set_cons_succ, e11, e14]) ?_
          simp only [putAll, Act.put, List.setIfInBounds_toArray, List.set_cons_zero, List.set_cons_succ, e11, e14] at hK ⊢
          go_simp
          exact hK _ _ _ rfl hG (Below.refl _ _) rfl
        · have e15 : f 15 = (.bool false) := hd 15 (by kernel_rfl)
          refine wanted_on (by simp [Region.wanted, yielded, putAll, Act.put, List.setIfInBounds_toArray, List.set_cons_zero, List.set_cons_succ, e15]) ?_
          simp only [putAll, Act.put, List.setIfInBounds_toArray, List.set_cons_zero, List.set_cons_succ, e15] at hK ⊢
          go_simp
          exact hK _ _ _ rfl hG (Below.refl _ _) rfl
        · have e15 : f 15 = (.bool false) := hd 15 (by kernel_rfl)
          have e16 : f 16 = (.pointer (some ⟨u6.heap.size, 3, none⟩)) := hd 16 (by kernel_rfl)
          obtain ⟨⟨c0, c1, c2, c3⟩, _⟩ := box4 ((HF.out _ hG).2.2.1)
          refine wanted_on (by simp [Region.wanted, yielded, putAll, Act.put, List.setIfInBounds_toArray, List.set_cons_zero, List.set_cons_succ, e15, e16]) ?_
          simp only [putAll, Act.put, List.setIfInBounds_toArray, List.set_cons_zero, List.set_cons_succ, e15, e16] at hK ⊢
          go_simp
          exact hK _ _ _ rfl hG (Below.refl _ _) rfl
        · have e15 : f 15 = (.bool false) := hd 15 (by kernel_rfl)
          have e17 : f 17 = (.slice (some ⟨qb, qf, none⟩) x0.l.length qc) := hd 17 (by kernel_rfl)
          refine wanted_on (by simp [Region.wanted, yielded, putAll, Act.put, List.setIfInBounds_toArray, List.set_cons_zero, List.set_cons_succ, e15, e17]) ?_
          simp only [putAll, Act.put, List.setIfInBounds_toArray, List.set_cons_zero, List.set_cons_succ, e15, e17] at hK ⊢
          go_simp
          exact hK _ _ _ rfl hG (Below.refl _ _) rfl
        · have e15 : f 15 = (.bool false) := hd 15 (by kernel_rfl)
          refine wanted_on (by simp [Region.wanted, yielded, putAll, Act.put, List.setIfInBounds_toArray, List.set_cons_zero, List.set_cons_succ, e15]) ?_
          simp only [putAll, Act.put, List.setIfInBounds_toArray, List.set_cons_zero, List.set_cons_succ, e15] at hK ⊢
          go_simp
          exact hK _ _ _ rfl hG (Below.refl _ _) rfl
        · have e15 : f 15 = (.bool false) := hd 15 (by kernel_rfl)
          have e19 : f 19 = (.pointer (some ⟨w.heap.size, 3, none⟩)) := hd 19 (by kernel_rfl)
          obtain ⟨⟨c0, c1, c2, c3⟩, _⟩ := box4 ((HF.out _ hG).1)
          refine wanted_on (by simp [Region.wanted, yielded, putAll, Act.put, List.setIfInBounds_toArray, List.set_cons_zero, List.set_cons_succ, e15, e19]) ?_
          simp only [putAll, Act.put, List.setIfInBounds_toArray, List.set_cons_zero, List.set_cons_succ, e15, e19] at hK ⊢
          go_simp
          exact hK _ _ _ rfl hG (Below.refl _ _) rfl
        · have e15 : f 15 = (.bool false) := hd 15 (by kernel_rfl)
          have e20 : f 20 = (.slice (some ⟨lb, lf, none⟩) x0.l.length lc) := hd 20 (by kernel_rfl)
          refine wanted_on (by simp [Region.wanted, yielded, putAll, Act.put, List.setIfInBounds_toArray, List.set_cons_zero, List.set_cons_succ, e15, e20]) ?_
          simp only [putAll, Act.put, List.setIfInBounds_toArray, List.set_cons_zero, List.set_cons_succ, e15, e20] at hK ⊢
          go_simp
          exact hK _ _ _ rfl hG (Below.refl _ _) rfl
        · have e15 : f 15 = (.bool false) := hd 15 (by kernel_rfl)
          have e18 : f 18 = (.int .i64 x0.l.length) := hd 18 (by kernel_rfl)
          have e21 : f 21 = (.int .i64 x0.l.length) := hd 21 (by kernel_rfl)
          refine wanted_on (by simp [Region.wanted, yielded, putAll, Act.put, List.setIfInBounds_toArray, List.set_cons_zero, List.set_cons_succ, e15, e18, e21]) ?_
          simp only [putAll, Act.put, List.setIfInBounds_toArray, List.set_cons_zero, List.set_cons_succ, e15, e18, e21] at hK ⊢
          go_simp
          exact hK _ _ _ rfl hG (Below.refl _ _) (by simp [isV, atR])
        · have e15 : f 15 = (.bool false) := hd 15 (by kernel_rfl)
          have e22 : f 22 = (.bool true) := hd 22 (by kernel_rfl)
          refine wanted_on (by simp [Region.wanted, yielded, putAll, Act.put, List.setIfInBounds_toArray, List.set_cons_zero, List.set_cons_succ, e15, e22]) ?_
          simp only [putAll, Act.put, List.setIfInBounds_toArray, List.set_cons_zero, List.set_cons_succ, e15, e22] at hK ⊢
          go_simp
          exact hK _ _ _ rfl hG (Below.refl _ _) rfl
        · have e23 : f 23 = (.bool true) := hd 23 (by kernel_rfl)
          refine wanted_on (by simp [Region.wanted, yielded, putAll, Act.put, List.setIfInBounds_toArray, List.set_cons_zero, List.set_cons_succ, e23]) ?_
          simp only [putAll, Act.put, List.setIfInBounds_toArray, List.set_cons_zero, List.set_cons_succ, e23] at hK ⊢
          go_simp
          exact hK _ _ _ rfl hG (Below.refl _ _) rfl
        · have e23 : f 23 = (.bool true) := hd 23 (by kernel_rfl)
          have e24 : f 24 = (.pointer (some ⟨w.heap.size, 3, none⟩)) := hd 24 (by kernel_rfl)
          obtain ⟨⟨c0, c1, c2, c3⟩, _⟩ := box4 ((HF.out _ hG).1)
          refine wanted_on (by simp [Region.wanted, yielded, putAll, Act.put, List.setIfInBounds_toArray, List.set_cons_zero, List.set_cons_succ, e23, e24]) ?_
          simp only [putAll, Act.put, List.setIfInBounds_toArray, List.set_cons_zero, List.set_cons_succ, e23, e24] at hK ⊢
          go_simp
          exact hK _ _ _ rfl hG (Below.refl _ _) rfl
        · have e23 : f 23 = (.bool true) := hd 23 (by kernel_rfl)
          have e25 : f 25 = (.slice (some ⟨lb, lf, none⟩) x0.l.length lc) := hd 25 (by kernel_rfl)
          refine wanted_on (by simp [Region.wanted, yielded, putAll, Act.put, List.setIfInBounds_toArray, List.set_cons_zero, List.set_cons_succ, e23, e25]) ?_
          simp only [putAll, Act.put, List.setIfInBounds_toArray, List.set_cons_zero, List.set_cons_succ, e23, e25] at hK ⊢
          go_simp
          exact hK _ _ _ rfl hG (Below.refl _ _) rfl
        · have e23 : f 23 = (.bool true) := hd 23 (by kernel_rfl)
          have e26 : f 26 = (.int .i64 x0.l.length) := hd 26 (by kernel_rfl)
          refine wanted_on (by simp [Region.wanted, yielded, putAll, Act.put, List.setIfInBounds_toArray, List.set_cons_zero, List.set_cons_succ, e23, e26]) ?_
          simp only [putAll, Act.put, List.setIfInBounds_toArray, List.set_cons_zero, List.set_cons_succ, e23, e26] at hK ⊢
          go_simp
          exact hK _ _ _ rfl hG (Below.refl _ _) (by simp [isV, atR, HNE.out])
        · have e23 : f 23 = (.bool true) := hd 23 (by kernel_rfl)
          have e27 : f 27 = (.bool false) := hd 27 (by kernel_rfl)
          refine wanted_on (by simp [Region.wanted, yielded, putAll, Act.put, List.setIfInBounds_toArray, List.set_cons_zero, List.set_cons_succ, e23, e27]) ?_
          simp only [putAll, Act.put, List.setIfInBounds_toArray, List.set_cons_zero, List.set_cons_succ, e23, e27] at hK ⊢
          go_simp
          exact hK _ _ _ rfl hG (Below.refl _ _) rfl
        · have e28 : f 28 = (.bool false) := hd 28 (by kernel_rfl)
          refine wanted_on (by simp [Region.wanted, yielded, putAll, Act.put, List.setIfInBounds_toArray, List.set_cons_zero, List.set_cons_succ, e28]) ?_
          simp only [putAll, Act.put, List.setIfInBounds_toArray, List.set_cons_zero, List.set_cons_succ, e28] at hK ⊢
          go_simp
          exact hK _ _ _ rfl hG (Below.refl _ _) rfl
        · have e28 : f 28 = (.bool false) := hd 28 (by kernel_rfl)
          have e29 : f 29 = (.pointer (some ⟨u6.heap.size, 3, none⟩)) := hd 29 (by kernel_rfl)
          obtain ⟨⟨c0, c1, c2, c3⟩, _⟩ := box4 ((HF.out _ hG).2.2.1)
          refine wanted_on (by simp [Region.wanted, yielded, putAll, Act.put, List.setIfInBounds_toArray, List.set_cons_zero, List.set_cons_succ, e28, e29]) ?_
          simp only [putAll, Act.put, List.setIfInBounds_toArray, List.set_cons_zero, List.set_cons_succ, e28, e29] at hK ⊢
          go_simp
          exact hK _ _ _ rfl hG (Below.refl _ _) rfl
        · have e28 : f 28 = (.bool false) := hd 28 (by kernel_rfl)
          have e30 : f 30 = (.slice (some ⟨qb, qf, none⟩) x0.l.length qc) := hd 30 (by kernel_rfl)
          have hlt0 : 0 < x0.l.length := HLT.out
          refine wanted_on (by simp [Region.wanted, yielded, putAll, Act.put, List.setIfInBounds_toArray, List.set_cons_zero, List.set_cons_succ, e28, e30]) ?_
          simp only [putAll, Act.put, List.setIfInBounds_toArray, List.set_cons_zero, List.set_cons_succ, e28, e30] at hK ⊢
          go_simp
          exact hK _ _ _ rfl hG (Below.refl _ _) rfl
        · have e28 : f 28 = (.bool false) := hd 28 (by kernel_rfl)
          have e31 : f 31 = (.pointer (some ⟨qb, qf, none⟩)) := hd 31 (by kernel_rfl)
          have hqc := HQ0.out u hG
          refine wanted_on (by simp [Region.wanted, yielded, putAll, Act.put, List.setIfInBounds_toArray, List.set_cons_zero, List.set_cons_succ, e28, e31]) ?_
          simp only [putAll, Act.put, List.setIfInBounds_toArray, List.set_cons_zero, List.set_cons_succ, e28, e31] at hK ⊢
          go_simp
          exact hK _ _ _ rfl hG (Below.refl _ _) rfl
        · have e28 : f 28 = (.bool false) := hd 28 (by kernel_rfl)
          refine wanted_on (by simp [Region.wanted, yielded, putAll, Act.put, List.setIfInBounds_toArray, List.set_cons_zero, List.set_cons_succ, e28]) ?_
          simp only [putAll, Act.put, List.setIfInBounds_toArray, List.set_cons_zero, List.set_cons_succ, e28] at hK ⊢
          go_simp
          exact hK _ _ _ rfl hG (Below.refl _ _) rfl
        · have e28 : f 28 = (.bool false) := hd 28 (by kernel_rfl)
          have e33 : f 33 = (.pointer (some ⟨w.heap.size, 3, none⟩)) := hd 33 (by kernel_rfl)
          obtain ⟨⟨c0, c1, c2, c3⟩, _⟩ := box4 ((HF.out _ hG).1)
          refine wanted_on (by simp [Region.wanted, yielded, putAll, Act.put, List.setIfInBounds_toArray, List.set_cons_zero, List.set_cons_succ, e28, e33]) ?_
          simp only [putAll, Act.put, List.setIfInBounds_toArray, List.set_cons_zero, List.set_cons_succ, e28, e33] at hK ⊢
          go_simp
          exact hK _ _ _ rfl hG (Below.refl _ _) rfl
        · have e28 : f 28 = (.bool false) := hd 28 (by kernel_rfl)
          have e34 : f 34 = (.slice (some ⟨lb, lf, none⟩) x0.l.length lc) := hd 34 (by kernel_rfl)
          have hlt0 : 0 < x0.l.length := HLT.out
          refine wanted_on (by simp [Region.wanted, yielded, putAll, Act.put, List.setIfInBounds_toArray, List.set_cons_zero, List.set_cons_succ, e28, e34]) ?_
          simp only [putAll, Act.put, List.setIfInBounds_toArray, List.set_cons_zero, List.set_cons_succ, e28, e34] at hK ⊢
          go_simp
          exact hK _ _ _ rfl hG (Below.refl _ _) rfl
        · have e28 : f 28 = (.bool false) := hd 28 (by kernel_rfl)
          have e35 : f 35 = (.pointer (some ⟨lb, lf, none⟩)) := hd 35 (by kernel_rfl)
          have hlc := HL0.out u hG
          refine wanted_on (by simp [Region.wanted, yielded, putAll, Act.put, List.setIfInBounds_toArray, List.set_cons_zero, List.set_cons_succ, e28, e35]) ?_
          simp only [putAll, Act.put, List.setIfInBounds_toArray, List.set_cons_zero, List.set_cons_succ, e28, e35] at hK ⊢
          go_simp
          exact hK _ _ _ rfl hG (Below.refl _ _) rfl
        · have e28 : f 28 = (.bool false) := hd 28 (by kernel_rfl)
          have e32 : f 32 = (.int .i64 p) := hd 32 (by kernel_rfl)
          have e36 : f 36 = (.int .i64 p) := hd 36 (by kernel_rfl)
          refine wanted_on (by simp [Region.wanted, yielded, putAll, Act.put, List.setIfInBounds_toArray, List.set_cons_zero, List.set_cons_succ, e28, e32, e36]) ?_
          simp only [putAll, Act.put, List.setIfInBounds_toArray, List.set_cons_zero, List.set_cons_succ, e28, e32, e36] at hK ⊢
          go_simp
          exact hK _ _ _ rfl hG (Below.refl _ _) (by simp [isV, atR])
        · have e23 : f 23 = (.bool true) := hd 23 (by kernel_rfl)
          have e28 : f 28 = (.bool false) := hd 28 (by kernel_rfl)
          have e37 : f 37 = (.bool true) := hd 37 (by kernel_rfl)
          refine wanted_on (by simp [Region.wanted, yielded, putAll, Act.put, List.setIfInBounds_toArray, List.set_cons_zero, List.set_cons_succ, e23, e28, e37]) ?_
          simp only [putAll, Act.put, List.setIfInBounds_toArray, List.set_cons_zero, List.set_cons_succ, e23, e28, e37] at hK ⊢
          go_simp
          exact hK _ _ _ rfl hG (Below.refl _ _) rfl
        · have e15 : f 15 = (.bool false) := hd 15 (by kernel_rfl)
          have e23 : f 23 = (.bool true) := hd 23 (by kernel_rfl)
          have e38 : f 38 = (.bool true) := hd 38 (by kernel_rfl)
          refine wanted_on (by simp [Region.wanted, yielded, putAll, Act.put, List.setIfInBounds_toArray, List.set_cons_zero, List.set_cons_succ, e15, e23, e38]) ?_
          simp only [putAll, Act.put, List.setIfInBounds_toArray, List.set_cons_zero, List.set_cons_succ, e15, e23, e38] at hK ⊢
          go_simp
          exact hK _ _ _ rfl hG (Below.refl _ _) rfl
        · have e11 : f 11 = (.bool true) := hd 11 (by kernel_rfl)
          have e15 : f 15 = (.bool false) := hd 15 (by kernel_rfl)
          have e39 : f 39 = (.bool true) := hd 39 (by kernel_rfl)
          refine wanted_on (by simp [Region.wanted, yielded, putAll, Act.put, List.setIfInBounds_toArray, List.set_cons_zero, List.set_cons_succ, e11, e15, e39]) ?_
          simp only [putAll, Act.put, List.setIfInBounds_toArray, List.set_cons_zero, List.set_cons_succ, e11, e15, e39] at hK ⊢
          go_simp
          exact hK _ _ _ rfl hG (Below.refl _ _) rfl
        · have e11 : f 11 = (.bool true) := hd 11 (by kernel_rfl)
          have e40 : f 40 = (.bool true) := hd 40 (by kernel_rfl)
          refine wanted_on rfl ?_
          simp only [putAll, Act.put, List.setIfInBounds_toArray, List.set_cons_zero, List.set_cons_succ, e11, e40] at hK ⊢
          go_simp
          exact hK _ _ _ rfl hG (Below.refl _ _) rfl
        · have e41 : f 41 = (.bool true) := hd 41 (by kernel_rfl)
          refine wanted_on rfl ?_
          simp only [putAll, Act.put, List.setIfInBounds_toArray, List.set_cons_zero, List.set_cons_succ, e41] at hK ⊢
          go_simp
          exact hK _ _ _ rfl hG (Below.refl _ _) rfl
      · intro f u hG hf
        have e42 : f 42 = .bool true := hf 42 (by decide)
        have HBB : Hid _ := (HF.out _ hG).2.2.2.2.2.2.1
        simp only [putAll, Act.put, List.setIfInBounds_toArray, List.set_cons_zero, List.set_cons_succ, e42]
        clear hf e42 hG HF HST
        go_wp2_with fail
        go_ret
        exact ⟨rfl, HBB.out⟩
  · refine wp_grow [isV (.pointer (some ⟨u7.heap.size, 3, none⟩)), isV (.slice xo 1 xc), isV (.int .i64 1), isV (.bool true), isV (.bool true), isV (.pointer (some ⟨w.heap.size + 1, 3, none⟩)), isV (.slice (some ⟨w.heap.size + 2, 0, none⟩) x0.l.length (x0.l.length + 2)), isV (.pointer (some ⟨w.heap.size, 3, none⟩)), isV (.slice lo x0.l.length lc), isV (.bool true), isV (.bool true), isV (.bool true), isV (.pointer (some ⟨w.heap.size, 0, none⟩)), isV (.int .i64 x0.kind), isV (.bool true), isV (.bool true), isV undef, isV undef, isV undef, isV undef, isV undef, isV undef, isV undef, isV undef, isV undef, isV undef, isV undef, isV undef, isV undef, isV undef, isV undef, isV undef, isV undef, isV undef, isV undef, isV undef, isV undef, isV undef, isV undef, isV undef, isV (.bool true), isV (.bool true), isV (.bool true)]
      ⟨stab_is _, stab_is _, stab_is _, stab_is _, stab_is _, stab_is _, stab_is _, stab_is _, stab_is _, stab_is _, stab_is _, stab_is _, stab_is _, stab_is _, stab_is _, stab_is _, stab_is _, stab_is _, stab_is _, stab_is _, stab_is _, stab_is _, stab_is _, stab_is _, stab_is _, stab_is _, stab_is _, stab_is _, stab_is _, stab_is _, stab_is _, stab_is _, stab_is _, stab_is _, stab_is _, stab_is _, stab_is _, stab_is _, stab_is _, stab_is _, stab_is _, stab_is _, stab_is _, trivial⟩ (by kernel_rfl) (by kernel_rfl) (by kernel_rfl) ?_ ?_
    · refine stepsOK_cons (fun f u hG hd K hK => ?_) (stepsOK_cons (fun f u hG hd K hK => ?_) (stepsOK_cons (fun f u hG hd K hK => ?_) (stepsOK_cons (fun f u hG hd K hK => ?_) (stepsOK_cons (fun f u hG hd K hK => ?_) (stepsOK_cons (fun f u hG hd K hK => ?_) (stepsOK_cons (fun f u hG hd K hK => ?_) (stepsOK_cons (fun f u hG hd K hK => ?_) (stepsOK_cons (fun f u hG hd K hK => ?_) (stepsOK_cons (fun f u hG hd K hK => ?_) (stepsOK_cons (fun f u hG hd K hK => ?_) (stepsOK_cons (fun f u hG hd K hK => ?_) (stepsOK_cons (fun f u hG hd K hK => ?_) (stepsOK_cons (fun f u hG hd K hK => ?_) (stepsOK_cons (fun f u hG hd K hK => ?_) (stepsOK_cons (fun f u hG hd K hK => ?_) (stepsOK_cons (fun f u hG hd K hK => ?_) (stepsOK_cons (fun f u hG hd K hK => ?_) (stepsOK_cons (fun f u hG hd K hK => ?_) (stepsOK_cons (fun f u hG hd K hK => ?_) (stepsOK_cons (fun f u hG hd K hK => ?_) (stepsOK_cons (fun f u hG hd K hK => ?_) (stepsOK_cons (fun f u hG hd K hK => ?_) (stepsOK_cons (fun f u hG hd K hK => ?_) (stepsOK_cons (fun f u hG hd K hK => ?_) (stepsOK_cons (fun f u hG hd K hK => ?_) (stepsOK_cons (fun f u hG hd K hK => ?_) (stepsOK_cons (fun f u hG hd K hK => ?_) (stepsOK_cons (fun f u hG hd K hK => ?_) (stepsOK_cons (fun f u hG hd K hK => ?_) (stepsOK_cons (fun f u hG hd K hK => ?_) (stepsOK_cons (fun f u hG hd K hK => ?_) (stepsOK_cons (fun f u hG hd K hK => ?_) (stepsOK_cons (fun f u hG hd K hK => ?_) (stepsOK_cons (fun f u hG hd K hK => ?_) (stepsOK_cons (fun f u hG hd K hK => ?_) (stepsOK_cons (fun f u hG hd K hK => ?_) (stepsOK_cons (fun f u hG hd K hK => ?_) (stepsOK_cons (fun f u hG hd K hK => ?_) (stepsOK_cons (fun f u hG hd K hK => ?_) (stepsOK_cons (fun f u hG hd K hK => ?_) (stepsOK_cons (fun f u hG hd K hK => ?_) (stepsOK_cons (fun f u hG hd K hK => ?_) stepsOK_nil))))))))))))))))))))))))))))))))))))))))))
      · refine wanted_on rfl ?_
        simp only [putAll, Act.put, List.setIfInBounds_toArray, List.set_cons_zero, List.set_cons_succ] at hK ⊢
        go_simp
        exact hK _ _ _ rfl hG (Below.refl _ _) rfl
      · have e0 : f 0 = (.pointer (some ⟨u7.heap.size, 3, none⟩)) := hd 0 (by kernel_rfl)
        obtain ⟨⟨c0, c1, c2, c3⟩, _⟩ := box4 ((HF.out _ hG).2.2.2.1)
        refine wanted_on rfl ?_
        simp only [putAll, Act.put, List.setIfInBounds_toArray, List.set_cons_zero, List.set_cons_succ, e0] at hK ⊢
        go_simp
        exact hK _ _ _ rfl hG (Below.refl _ _) rfl
      · have e1 : f 1 = (.slice xo 1 xc) := hd 1 (by kernel_rfl)
        refine wanted_on rfl ?_
        simp only [putAll, Act.put, List.setIfInBounds_toArray, List.set_cons_zero, List.set_cons_succ, e1] at hK ⊢
        go_simp
        exact hK _ _ _ rfl hG (Below.refl _ _) rfl
      · have e2 : f 2 = (.int .i64 1) := hd 2 (by kernel_rfl)
        refine wanted_on rfl ?_
        simp only [putAll, Act.put, List.setIfInBounds_toArray, List.set_cons_zero, List.set_cons_succ, e2] at hK ⊢
        go_simp
        exact hK _ _ _ rfl hG (Below.refl _ _) rfl
      · have e3 : f 3 = (.bool true) := hd 3 (by kernel_rfl)
        refine wanted_on rfl ?_
        simp only [putAll, Act.put, List.setIfInBounds_toArray, List.set_cons_zero, List.set_cons_succ, e3] at hK ⊢
        go_simp
        exact hK _ _ _ rfl hG (Below.refl _ _) rfl
      · have e4 : f 4 = (.bool true) := hd 4 (by kernel_rfl)
        refine wanted_on (by simp [Region.wanted, yielded, putAll, Act.put, List.setIfInBounds_toArray, List.set_cons_zero, List.set_cons_succ, e4]) ?_
        simp only [putAll, Act.put, List.setIfInBounds_toArray, List.set_cons_zero, List.set_cons_succ, e4] at hK ⊢
        go_simp
        exact hK _ _ _ rfl hG (Below.refl _ _) rfl
      · have e4 : f 4 = (.bool true) := hd 4 (by kernel_rfl)
        have e5 : f 5 = (.pointer (some ⟨w.heap.size + 1, 3, none⟩)) := hd 5 (by kernel_rfl)
        obtain ⟨⟨c0, c1, c2, c3⟩, _⟩ := box4 ((HF.out _ hG).2.1)
        refine wanted_on (by simp [Region.wanted, yielded, putAll, Act.put, List.setIfInBounds_toArray, List.set_cons_zero, List.set_cons_succ, e4, e5]) ?_
        simp only [putAll, Act.put, List.setIfInBounds_toArray, List.set_cons_zero, List.set_cons_succ, e4, e5] at hK ⊢
        go_simp
        exact hK _ _ _ rfl hG (Below.refl _ _) rfl
      · have e4 : f 4 = (.bool true) := hd 4 (by kernel_rfl)
        refine wanted_on (by simp [Region.wanted, yielded, putAll, Act.put, List.setIfInBounds_toArray, List.set_cons_zero, List.set_cons_succ, e4]) ?_
        simp only [putAll, Act.put, List.setIfInBounds_toArray, List.set_cons_zero, List.set_cons_succ, e4] at hK ⊢
        go_simp
        exact hK _ _ _ rfl hG (Below.refl _ _) rfl
      · have e4 : f 4 = (.bool true) := hd 4 (by kernel_rfl)
        have e7 : f 7 = (.pointer (some ⟨w.heap.size, 3, none⟩)) := hd 7 (by kernel_rfl)
        obtain ⟨⟨c0, c1, c2, c3⟩, _⟩ := box4 ((HF.out _ hG).1)
        refine wanted_on (by simp [Region.wanted, yielded, putAll, Act.put, List.setIfInBounds_toArray, List.set_cons_zero, List.set_cons_succ, e4, e7]) ?_
        simp only [putAll, Act.put, List.setIfInBounds_toArray, List.set_cons_zero, List.set_cons_succ, e4, e7] at hK ⊢
        go_simp
        exact hK _ _ _ rfl hG (Below.refl _ _) rfl
      · have e4 : f 4 = (.bool true) := hd 4 (by kernel_rfl)
        have e6 : f 6 = (.slice (some ⟨w.heap.size + 2, 0, none⟩) x0.l.length (x0.l.length + 2)) := hd 6 (by kernel_rfl)
        have e8 : f 8 = (.slice lo x0.l.length lc) := hd 8 (by kernel_rfl)
        refine wanted_on (by simp [Region.wanted, yielded, putAll, Act.put, List.setIfInBounds_toArray, List.set_cons_zero, List.set_cons_succ, e4, e6, e8]) ?_
        simp only [putAll, Act.put, List.setIfInBounds_toArray, List.set_cons_zero, List.set_cons_succ, e4, e6, e8] at hK ⊢
        go_simp
        refine (HST.out u hG).mono ?_
        rintro e u1 ⟨rfl, m, rfl⟩
        have hb : Below u.heap.size u (u.drewN m) := ⟨rfl, rfl, rfl, Nat.le_refl _, fun _ _ => rfl⟩
        exact hK _ _ _ rfl (hG.trans (hb.mono hG.size)) hb rfl
      · have e4 : f 4 = (.bool true) := hd 4 (by kernel_rfl)
        have e9 : f 9 = (.bool true) := hd 9 (by kernel_rfl)
        refine wanted_on rfl ?_
        simp only [putAll, Act.put, List.setIfInBounds_toArray, List.set_cons_zero, List.set_cons_succ, e4, e9] at hK ⊢
        go_simp
        exact hK _ _ _ rfl hG (Below.refl _ _) rfl
      · have e10 : f 10 = (.bool true) := hd 10 (by kernel_rfl)
        refine wanted_on rfl ?_
        simp only [putAll, Act.put, List.setIfInBounds_toArray, List.set_cons_zero, List.set_cons_succ, e10] at hK ⊢
        go_simp
        exact hK _ _ _ rfl hG (Below.refl _ _) rfl
      · have e11 : f 11 = (.bool true) := hd 11 (by kernel_rfl)
        refine wanted_on (by simp [Region.wanted, yielded, putAll, Act.put, List.setIfInBounds_toArray, List.set_cons_zero, List.set_cons_succ, e11]) ?_
        simp only [putAll, Act.put, List.setIfInBounds_toArray, List.set_cons_zero, List.set_cons_succ, e11] at hK ⊢
        go_simp
        exact hK _ _ _ rfl hG (Below.refl _ _) rfl
      · have e11 : f 11 = (.bool true) := hd 11 (by kernel_rfl)
        have e12 : f 12 = (.pointer (some ⟨w.heap.size, 0, none⟩)) := hd 12 (by kernel_rfl)
        obtain ⟨⟨c0, c1, c2, c3⟩, _⟩ := box4 ((HF.out _ hG).1)
        refine wanted_on (by simp [Region.wanted, yielded, putAll, Act.put, List.setIfInBounds_toArray, List.set_cons_zero, List.set_cons_succ, e11, e12]) ?_
        simp only [putAll, Act.put, List.setIfInBounds_toArray, List.set_cons_zero, List.set_cons_succ, e11, e12] at hK ⊢
        go_simp
        exact hK _ _ _ rfl hG (Below.refl _ _) rfl
      · have e11 : f 11 = (.bool true) := hd 11 (by kernel_rfl)
        have e13 : f 13 = (.int .i64 x0.kind) := hd 13 (by kernel_rfl)
        refine wanted_on (by simp [Region.wanted, yielded, putAll, Act.put, List.setIfInBounds_toArray, List.set_cons_zero, List.set_cons_succ, e11, e13]) ?_
        simp only [putAll, Act.put, List.setIfInBounds_toArray, List.set_cons_zero, List.set_cons_succ, e11, e13] at hK ⊢
        go_simp
        exact hK _ _ _ rfl hG (Below.refl _ _) (by simp [isV, atR, h6])
      · have e11 : f 11 = (.bool true) := hd 11 (by kernel_rfl)
        have e14 : f 14 = (.bool true) := hd 14 (by kernel_rfl)
        refine wanted_on (by simp [Region.wanted, yielded, putAll, Act.put, List.setIfInBounds_toArray, List.set_cons_zero, List.set_cons_succ, e11, e14]) ?_
        simp only [putAll, Act.put, List.setIfInBounds_toArray, List.set_cons_zero, List.set_cons_succ, e11, e14] at hK ⊢
        go_simp
        exact hK _ _ _ rfl hG (Below.refl _ _) rfl
      · have e15 : f 15 = (.bool true) := hd 15 (by kernel_rfl)
        refine wanted_off (by simp [Region.wanted, yielded, undef, putAll, Act.put, List.setIfInBounds_toArray, List.set_cons_zero, List.set_cons_succ, e15]) ?_
        exact hK _ _ _ rfl hG (Below.refl _ _) (by first | trivial | rfl)
      · have e15 : f 15 = (.bool true) := hd 15 (by kernel_rfl)
        have e16 : f 16 = undef := hd 16 (by kernel_rfl)
        refine wanted_off (by simp [Region.wanted, yielded, undef, putAll, Act.put, List.setIfInBounds_toArray, List.set_cons_zero, List.set_cons_succ, e15, e16]) ?_
        exact hK _ _ _ rfl hG (Below.refl _ _) (by first | trivial | rfl)
      · have e15 : f 15 = (.bool true) := hd 15 (by kernel_rfl)
        have e17 : f 17 = undef := hd 17 (by kernel_rfl)
        refine wanted_off (by simp [Region.wanted, yielded, undef, putAll, Act.put, List.setIfInBounds_toArray, List.set_cons_zero, List.set_cons_succ, e15, e17]) ?_
        exact hK _ _ _ rfl hG (Below.refl _ _) (by first | trivial | rfl)
      · have e15 : f 15 = (.bool true) := hd 15 (by kernel_rfl)
        refine wanted_off (by simp [Region.wanted, yielded, undef, putAll, Act.put, List.setIfInBounds_toArray, List.set_cons_zero, List.set_cons_succ, e15]) ?_
        exact hK _ _ _ rfl hG (Below.refl _ _) (by first | trivial | rfl)
      · have e15 : f 15 = (.bool true) := hd 15 (by kernel_rfl)
        have e19 : f 19 = undef := hd 19 (by kernel_rfl)
        refine wanted_off (by simp [Region.wanted, yielded, undef, putAll, Act.put, List.setIfInBounds_toArray, List.set_cons_zero, List.set_cons_succ, e15, e19]) ?_
        exact hK _ _ _ rfl hG (Below.refl _ _) (by first | trivial | rfl)
      · have e15 : f 15 = (.bool true) := hd 15 (by kernel_rfl)
        have e20 : f 20 = undef := hd 20 (by kernel_rfl)
        refine wanted_off (by simp [Region.wanted, yielded, undef, putAll, Act.put, List.setIfInBounds_toArray, List.set_cons_zero, List.set_cons_succ, e15, e20]) ?_
        exact hK _ _ _ rfl hG (Below.refl _ _) (by first | trivial | rfl)
      · have e15 : f 15 = (.bool true) := hd 15 (by kernel_rfl)
        have e18 : f 18 = undef := hd 18 (by kernel_rfl)
        have e21 : f 21 = undef := hd 21 (by kernel_rfl)
        refine wanted_off (by simp [Region.wanted, yielded, undef, putAll, Act.put, List.setIfInBounds_toArray, List.set_cons_zero, List.set_cons_succ, e15, e18, e21]) ?_
        exact hK _ _ _ rfl hG (Below.refl _ _) (by first | trivial | rfl)
      · have e15 : f 15 = (.bool true) := hd 15 (by kernel_rfl)
        have e22 : f 22 = undef := hd 22 (by kernel_rfl)
        refine wanted_off (by simp [Region.wanted, yielded, undef, putAll, Act.put, List.setIfInBounds_toArray, List.set_cons_zero, List.set_cons_succ, e15, e22]) ?_
        exact hK _ _ _ rfl hG (Below.refl _ _) (by first | trivial | rfl)
      · have e23 : f 23 = undef := hd 23 (by kernel_rfl)
        refine wanted_off (by simp [Region.wanted, yielded, undef, putAll, Act.put, List.setIfInBounds_toArray, List.set_cons_zero, List.set_cons_succ, e23]) ?_
        exact hK _ _ _ rfl hG (Below.refl _ _) (by first | trivial | rfl)
      · have e23 : f 23 = undef := hd 23 (by kernel_rfl)
        have e24 : f 24 = undef := hd 24 (by kernel_rfl)
        refine wanted_off (by simp [Region.wanted, yielded, undef, putAll, Act.put, List.setIfInBounds_toArray, List.set_cons_zero, List.set_cons_succ, e23, e24]) ?_
        exact hK _ _ _ rfl hG (Below.refl _ _) (by first | trivial | rfl)
      · have e23 : f 23 = undef := hd 23 (by kernel_rfl)
        have e25 : f 25 = undef := hd 25 (by kernel_rfl)
        refine wanted_off (by simp [Region.wanted, yielded, undef, putAll, Act.put, List.setIfInBounds_toArray, List.set_cons_zero, List.set_cons_succ, e23, e25]) ?_
        exact hK _ _ _ rfl hG (Below.refl _ _) (by first | trivial | rfl)
      · have e23 : f 23 = undef := hd 23 (by kernel_rfl)
        have e26 : f 26 = undef := hd 26 (by kernel_rfl)
        refine wanted_off (by simp [Region.wanted, yielded, undef, putAll, Act.put, List.setIfInBounds_toArray, List.set_cons_zero, List.set_cons_succ, e23, e26]) ?_
        exact hK _ _ _ rfl hG (Below.refl _ _) (by first | trivial | rfl)
      · have e23 : f 23 = undef := hd 23 (by kernel_rfl)
        have e27 : f 27 = undef := hd 27 (by kernel_rfl)
        refine wanted_off (by simp [Region.wanted, yielded, undef, putAll, Act.put, List.setIfInBounds_toArray, List.set_cons_zero, List.set_cons_succ, e23, e27]) ?_
        exact hK _ _ _ rfl hG (Below.refl _ _) (by first | trivial | rfl)
      · have e28 : f 28 = undef := hd 28 (by kernel_rfl)
        refine wanted_off (by simp [Region.wanted, yielded, undef, putAll, Act.put, List.setIfInBounds_toArray, List.set_cons_zero, List.set_cons_succ, e28]) ?_
        exact hK _ _ _ rfl hG (Below.refl _ _) (by first | trivial | rfl)
      · have e28 : f 28 = undef := hd 28 (by kernel_rfl)
        have e29 : f 29 = undef := hd 29 (by kernel_rfl)
        refine wanted_off (by simp [Region.wanted, yielded, undef, putAll, Act.put, List.setIfInBounds_toArray, List.set_cons_zero, List.set_cons_succ, e28, e29]) ?_
        exact hK _ _ _ rfl hG (Below.refl _ _) (by first | trivial | rfl)
      · have e28 : f 28 = undef := hd 28 (by kernel_rfl)
        have e30 : f 30 = undef := hd 30 (by kernel_rfl)
        refine wanted_off (by simp [Region.wanted, yielded, undef, putAll, Act.put, List.setIfInBounds_toArray, List.set_cons_zero, List.set_cons_succ, e28, e30]) ?_
        exact hK _ _ _ rfl hG (Below.refl _ _) (by first | trivial | rfl)
      · have e28 : f 28 = undef := hd 28 (by kernel_rfl)
        have e31 : f 31 = undef := hd 31 (by kernel_rfl)
        refine wanted_off (by simp [Region.wanted, yielded, undef, putAll, Act.put, List.setIfInBounds_toArray, List.set_cons_zero, List.set_cons_succ, e28, e31]) ?_
        exact hK _ _ _ rfl hG (Below.refl _ _) (by first | trivial | rfl)
      · have e28 : f 28 = undef := hd 28 (by kernel_rfl)
        refine wanted_off (by simp [Region.wanted, yielded, undef, putAll, Act.put, List.setIfInBounds_toArray, List.set_cons_zero, List.set_cons_succ, e28]) ?_
        exact hK _ _ _ rfl hG (Below.refl _ _) (by first | trivial | rfl)
      · have e28 : f 28 = undef := hd 28 (by kernel_rfl)
        have e33 : f 33 = undef := hd 33 (by kernel_rfl)
        refine wanted_off (by simp [Region.wanted, yielded, undef, putAll, Act.put, List.setIfInBounds_toArray, List.set_cons_zero, List.set_cons_succ, e28, e33]) ?_
        exact hK _ _ _ rfl hG (Below.refl _ _) (by first | trivial | rfl)
      · have e28 : f 28 = undef := hd 28 (by kernel_rfl)
        have e34 : f 34 = undef := hd 34 (by kernel_rfl)
        refine wanted_off (by simp [Region.wanted, yielded, undef, putAll, Act.put, List.setIfInBounds_toArray, List.set_cons_zero, List.set_cons_succ, e28, e34]) ?_
        exact hK _ _ _ rfl hG (Below.refl _ _) (by first | trivial | rfl)
      · have e28 : f 28 = undef := hd 28 (by kernel_rfl)
        have e35 : f 35 = undef := hd 35 (by kernel_rfl)
        refine wanted_off (by simp [Region.wanted, yielded, undef, putAll, Act.put, List.setIfInBounds_toArray, List.set_cons_zero, List.set_cons_succ, e28, e35]) ?_
        exact hK _ _ _ rfl hG (Below.refl _ _) (by first | trivial | rfl)
      · have e28 : f 28 = undef := hd 28 (by kernel_rfl)
        have e32 : f 32 = undef := hd 32 (by kernel_rfl)
        have e36 : f 36 = undef := hd 36 (by kernel_rfl)
        refine wanted_off (by simp [Region.wanted, yielded, undef, putAll, Act.put, List.setIfInBounds_toArray, List.set_cons_zero, List.set_cons_succ, e28, e32, e36]) ?_
        exact hK _ _ _ rfl hG (Below.refl _ _) (by first | trivial | rfl)
      · have e23 : f 23 = undef := hd 23 (by kernel_rfl)
        have e28 : f 28 = undef := hd 28 (by kernel_rfl)
        have e37 : f 37 = undef := hd 37 (by kernel_rfl)
        refine wanted_off (by simp [Region.wanted, yielded, undef, putAll, Act.put, List.setIfInBounds_toArray, List.set_cons_zero, List.set_cons_succ, e23, e28, e37]) ?_
        exact hK _ _ _ rfl hG (Below.refl _ _) (by first | trivial | rfl)
      · have e15 : f 15 = (.bool true) := hd 15 (by kernel_rfl)
        have e23 : f 23 = undef := hd 23 (by kernel_rfl)
        have e38 : f 38 = undef := hd 38 (by kernel_rfl)
        refine wanted_off (by simp [Region.wanted, yielded, undef, putAll, Act.put, List.setIfInBounds_toArray, List.set_cons_zero, List.set_cons_succ, e15, e23, e38]) ?_
        exact hK _ _ _ rfl hG (Below.refl _ _) (by first | trivial | rfl)
      · have e11 : f 11 = (.bool true) := hd 11 (by kernel_rfl)
        have e15 : f 15 = (.bool true) := hd 15 (by kernel_rfl)
        have e39 : f 39 = undef := hd 39 (by kernel_rfl)
        refine wanted_on (by simp [Region.wanted, yielded, putAll, Act.put, List.setIfInBounds_toArray, List.set_cons_zero, List.set_cons_succ, e11, e15, e39]) ?_
        simp only [putAll, Act.put, List.setIfInBounds_toArray, List.set_cons_zero, List.set_cons_succ, e11, e15, e39] at hK ⊢
        go_simp
        exact hK _ _ _ rfl hG (Below.refl _ _) rfl
      · have e11 : f 11 = (.bool true) := hd 11 (by kernel_rfl)
        have e40 : f 40 = (.bool true) := hd 40 (by kernel_rfl)
        refine wanted_on rfl ?_
        simp only [putAll, Act.put, List.setIfInBounds_toArray, List.set_cons_zero, List.set_cons_succ, e11, e40] at hK ⊢
        go_simp
        exact hK _ _ _ rfl hG (Below.refl _ _) rfl
      · have e41 : f 41 = (.bool true) := hd 41 (by kernel_rfl)
        refine wanted_on rfl ?_
        simp only [putAll, Act.put, List.setIfInBounds_toArray, List.set_cons_zero, List.set_cons_succ, e41] at hK ⊢
        go_simp
        exact hK _ _ _ rfl hG (Below.refl _ _) rfl
    · intro f u hG hf
      have e42 : f 42 = .bool true := hf 42 (by decide)
      have HBB : Hid _ := (HF.out _ hG).2.2.2.2.2.2.1
      simp only [putAll, Act.put, List.setIfInBounds_toArray, List.set_cons_zero, List.set_cons_succ, e42]
      clear hf e42 hG HF HST
      go_wp2_with fail
      go_ret
      exact ⟨rfl, HBB.out⟩

theorem contract (H : Type) (enc : TypeId × Value → H) (W : World) (base : Nat) (args : Array Value) (ds gs : List (DataW H)) (before : List MemPlace)
    (hval : ∀ (j : Nat) t v, Tryd.f3.params[j]? = some t → args[j]? = some v → Value.okWide Tryd.prog W .any base t v)
    (hW : DataW.Whole enc Tryd.prog Tryd.f3.params.toList Rows.valueMemorySpec.vars false W args.toList ds gs before)
    (hsz : (DataW.weightsEach Tryd.prog (Tryd.f3.params.toList ++ (Rows.OpenSpec.upto Rows.valueMemorySpec).bare.plain.varTypes Tryd.prog) (ds ++ gs)).all (· ≤ reachBytes) = true) (hk : Rows.uptoSmall H (ds ++ gs) = true) (hL : laidMetH Tryd.prog Rows.valueMemoryRow.laid W) :
    Calls Tryd.prog 3 args W fun e W' => ∃ v, e = .returned v ∧ Rows.valueMemorySpec.post enc Tryd.prog Tryd.f3 false true false false W args v W' := by
  have hW' := hW
  obtain ⟨p, q, hA0, hV, rfl, hfz, hnd⟩ := hW
  have hA : DataW.TrodAll enc Tryd.prog W 0 (fun _ => true) true Tryd.f3.params.toList args.toList ds p := hA0
  rw [Tryd.params3] at hA hval hsz
  obtain ⟨v0, vs0, d0, ds0, p0, q0, hargs, rfl, rfl, h0, r0⟩ := trodAll_cons hA
  obtain ⟨rfl, rfl, rfl⟩ := trodAll_nil r0
  obtain rfl : args = #[v0] := by cases args; simp_all
  obtain ⟨rfl, rfl⟩ := trodVars_none hV
  obtain ⟨x0, L0, rfl, i0, m0, b0⟩ := vcame_of_small (j := 0) (hval 0 24 v0 rfl rfl) h0 hsz rfl rfl hk
  clear hA0
  simp only [List.append_nil] at hW'
  have hlt0 : ∀ x ∈ p0, x.block < W.heap.size := fun x hx => hW'.lt x (by simp [hx])
  refine (walk x0 L0 W i0 m0 b0 (pow_of hL)).mono fun e W' ⟨he, bel⟩ => ?_
  subst he
  exact ⟨_, rfl, _, _, _, [], p0 ++ [], [], hW', trodAll_mk1 (shut_bool Tryd.underlying4 _), (trodAll_cons_mk (Below.trod (by kernel_rfl) (by kernel_rfl) (of_decide_eq_true (by kernel_rfl)) h0 bel hlt0) trodAll_mk0), rfl, bel.frame _, fun h => by cases h⟩

noncomputable def low : Nat := (World.holding Tryd.prog default ⟨#[], #[], []⟩).heap.size
noncomputable def laidWorld (os : Os) : World :=
  let w0 := World.holding Tryd.prog os ⟨#[], #[], []⟩
  { w0 with heap := (((w0.heap.modify 1 fun
      | .cells _ t frozen => .cells #[.int .u64 1, .int .u64 10, .int .u64 100, .int .u64 1000, .int .u64 10000, .int .u64 100000, .int .u64 1000000, .int .u64 10000000, .int .u64 100000000, .int .u64 1000000000, .int .u64 10000000000, .int .u64 100000000000, .int .u64 1000000000000, .int .u64 10000000000000, .int .u64 100000000000000, .int .u64 1000000000000000, .int .u64 10000000000000000, .int .u64 100000000000000000, .int .u64 1000000000000000000, .int .u64 10000000000000000000] t frozen
      | o => o).modify 2 fun
      | .cells _ t frozen => .cells #[.int .u8 0, .int .u8 1, .int .u8 28, .int .u8 2, .int .u8 29, .int .u8 14, .int .u8 24, .int .u8 3, .int .u8 30, .int .u8 22, .int .u8 20, .int .u8 15, .int .u8 25, .int .u8 17, .int .u8 4, .int .u8 8, .int .u8 31, .int .u8 27, .int .u8 13, .int .u8 23, .int .u8 21, .int .u8 19, .int .u8 16, .int .u8 7, .int .u8 26, .int .u8 12, .int .u8 18, .int .u8 6, .int .u8 11, .int .u8 5, .int .u8 10, .int .u8 9] t frozen
      | o => o).modify 3 fun
      | .cells _ t frozen => .cells #[.int .u8 0, .int .u8 1, .int .u8 56, .int .u8 2, .int .u8 57, .int .u8 49, .int .u8 28, .int .u8 3, .int .u8 61, .int .u8 58, .int .u8 42, .int .u8 50, .int .u8 38, .int .u8 29, .int .u8 17, .int .u8 4, .int .u8 62, .int .u8 47, .int .u8 59, .int .u8 36, .int .u8 45, .int .u8 43, .int .u8 51, .int .u8 22, .int .u8 53, .int .u8 39, .int .u8 33, .int .u8 30, .int .u8 24, .int .u8 18, .int .u8 12, .int .u8 5, .int .u8 63, .int .u8 55, .int .u8 48, .int .u8 27, .int .u8 60, .int .u8 41, .int .u8 37, .int .u8 16, .int .u8 46, .int .u8 35, .int .u8 44, .int .u8 21, .int .u8 52, .int .u8 32, .int .u8 23, .int .u8 11, .int .u8 54, .int .u8 26, .int .u8 40, .int .u8 15, .int .u8 34, .int .u8 20, .int .u8 31, .int .u8 10, .int .u8 25, .int .u8 14, .int .u8 19, .int .u8 9, .int .u8 13, .int .u8 8, .int .u8 7, .int .u8 6] t frozen
      | o => o) }
theorem laid_met (os : Os) : laidMet Tryd.prog Rows.valueMemoryUptoRow.laid ((laidWorld os).forCall (fun _ _ => 0) ⟨#[], #[.agg #[.int .i64 0, .int .i64 0, .string ByteArray.empty, .slice none 0 0]], []⟩).memory :=
  laidMet_of_run' 8 (by kernel_rfl) (by kernel_rfl)
theorem reads (os : Os) {H : Type} (enc : TypeId × Value → H) : ∃ places, DataW.whole enc Tryd.prog ((laidWorld os).forCall (fun _ _ => 0) ⟨#[], #[.agg #[.int .i64 0, .int .i64 0, .string ByteArray.empty, .slice none 0 0]], []⟩).memory Tryd.f3.params.toList Rows.valueMemorySpec.vars false #[Value.agg #[.int .i64 0, .int .i64 0, .string ByteArray.empty, .slice none 0 0]].toList 8 = some ([.agg [.lit (.int .i64 0), .lit (.int .i64 0), .lit (.string []), .nil]], [], places) :=
  ⟨[], by kernel_rfl⟩

set_option maxRecDepth 100000 in
theorem lifted (os : Os) (started : os.Started) (H : Type) (enc : TypeId × Value → H) (F : Stop.Interp) :
    ReturnsInHanded {} Tryd.checked os 3 .any ((Rows.OpenSpec.upto Rows.valueMemorySpec).preRow enc Tryd.prog Tryd.f3 Rows.valueMemoryUptoRow.domain false Rows.valueMemoryUptoRow.laid) (((Rows.OpenSpec.upto Rows.valueMemorySpec).at F).post enc Tryd.prog Tryd.f3 false true false false) := by
  obtain ⟨places, hx⟩ := reads os enc
  refine returnsInHanded_of_row (C := Tryd.checked) (s := Rows.OpenSpec.upto Rows.valueMemorySpec) own started (by kernel_rfl) Tryd.func3
    (witness_row_at (enc := enc) (C := Tryd.checked) false (laidWorld os) #[.agg #[.int .i64 0, .int .i64 0, .string ByteArray.empty, .slice none 0 0]] rfl (by kernel_rfl) (by kernel_rfl) (by kernel_rfl)
      (OpenSpec.preRow_of_cond 8 hx (by kernel_rfl) (fun k hk => by cases hk; kernel_rfl) (by kernel_rfl) (laid_met os))) ?_
  intro W base args ds gs before hval hW _ hcond hsz hL _ _
  exact contract H enc W base args ds gs before hval hW hsz (hcond _ rfl) hL

theorem said : Rows.ValueMemoryUptoSaid :=
  OpenClaim.holds_of_cond 3 Tryd.f3 rfl rfl rfl rfl rfl rfl rfl ⟨rfl, rfl, rfl, rfl, rfl⟩ rfl rfl rfl rfl rfl (by kernel_rfl) Tryd.func3 (by kernel_rfl)
    (of_decide_eq_true (by kernel_rfl)) (by unfold Func.isWrapper; first | (rw [if_pos (by decide +kernel)]; kernel_rfl) | (rw [if_neg (by decide +kernel)]; exact ⟨rfl, rfl⟩))
    (fun os started H enc _ F => by rw [OpenClaim.pre_eq_preRow]; exact lifted os started H enc F)

theorem plain (f : FuncId) (fn : Func) (hf : Tryd.pinned.checked.prog.funcNamed "panicroad/panicroadkeep.ValueMemory" = some f) (hfn : Tryd.pinned.checked.prog.funcs[f]? = some fn) :
    false = Tryd.pinned.checked.prog.looks [] ∧ ∀ (j : Nat) t, fn.params[j]? = some t → Tryd.pinned.checked.prog.wantsStandIn t = false := by
  obtain rfl : f = 3 := Option.some.inj ((show Tryd.prog.funcNamed "panicroad/panicroadkeep.ValueMemory" = some 3 by kernel_rfl).symm.trans hf) |>.symm
  obtain rfl : fn = Tryd.f3 := (Option.some.inj (Tryd.func3.symm.trans hfn)).symm
  refine ⟨by kernel_rfl, fun j t ht => ?_⟩
  rw [Tryd.params3] at ht
  have hm := Array.mem_of_getElem? ht
  simp at hm
  subst hm
  exact (show Tryd.prog.wantsStandIn 24 = false by kernel_rfl)

theorem card : Rows.ValueMemoryUptoCardSaid :=
  Claim7.holds_tied_plain_at .later [] _ _ _ _ said (fun _ h => by cases h) (by kernel_rfl) (fun _ h => by cases h) valueMemoryUpto_row_tie rfl ⟨rfl, rfl⟩ (by kernel_rfl) rfl plain (by kernel_rfl)
#print axioms card
end Go.Proofs.YtjfmhppgjhgdaabDoor.valueMemory
