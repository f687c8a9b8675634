/-
  For all values a, b that come in and are together of bulk at most 1048576, values that are the same are shown alike, and the plain value is shown as the value is, and is plain already: the law's function returns true; the library's tables hold at the start what the program's text lays (the card ties them).
-/
import Derived.Test.YtjfmhppgjhgdaabDoorVseenp
import Derived.Stop.LaidErr
import Derived.Test.YtjfmhppgjhgdaabDoorVcame
import Derived.JoinedCond
import Derived.Test.YtjfmhppgjhgdaabDoorVsmall
import Derived.Test.YtjfmhppgjhgdaabDoorCards
import Derived.Test.YtjfmhppgjhgdaabDoorTie
import Derived.Deep.DeepHandedRow
import Derived.Lib.LaidTab
import Derived.SizedLaws
import Derived.Deep.DeepWitnessRowRef
namespace Go.Proofs.YtjfmhppgjhgdaabDoor.valueSeen
open Go.ChangeShapes Go.WideShapes Go.ChangeAt Go.RowKit
open Go.WideMaps Go.WideElems
open Go.ChangeMaps (open_string shut_string)
set_option linter.unusedVariables false
set_option maxRecDepth 100000

theorem own : ownKnob Tryd.prog.godebug = none := by kernel_rfl

theorem pow_tab : Lib.pow10Tab = [1, 10, 100, 1000, 10000, 100000, 1000000, 10000000, 100000000, 1000000000, 10000000000, 100000000000, 1000000000000, 10000000000000, 100000000000000, 1000000000000000, 10000000000000000, 100000000000000000, 1000000000000000000, 10000000000000000000] := by decide
theorem pow_of {W : World} (h : laidMetH Tryd.prog Rows.valueSeenRow.laid W) : Pow W := by
  have h0 : laidMet Tryd.prog Rows.valueSeenRow.laid W := h
  unfold Pow
  rw [pow_tab]
  exact Lib.tabIs_of_head Tryd.gPow (by kernel_rfl) Tryd.underlying64 Tryd.underlying58 (by kernel_rfl) (by kernel_rfl) h0.tail.tail

set_option maxHeartbeats 8000000 in
theorem walk (x0 : Vv) (L0 : Value) (x1 : Vv) (L1 : Value) (w : World) (i0 : VIn x0) (m0 : ILies w L0 x0.l) (i1 : VIn x1) (m1 : ILies w L1 x1.l) (b0 : x0.s.size ≤ 1048576 ∧ x0.l.length ≤ 1048576) (b1 : x1.s.size ≤ 1048576 ∧ x1.l.length ≤ 1048576) (hp : Pow w) :
    Calls Tryd.prog 5 #[vval x0 L0, vval x1 L1] w fun e w' => e = .returned (.bool true) ∧ Below w.heap.size w w' := by
  have HO0 : Hid (∀ (L : Value) (u : World), ILies u L x0.l → Calls Tryd.prog 14 #[vval x0 L] u fun e w' => ∃ L', e = .returned (vval x0 L') ∧ ILies w' L' x0.l ∧ Below u.heap.size u w') := fun L u h => own_own x0 L u i0 h
  have HO1 : Hid (∀ (L : Value) (u : World), ILies u L x1.l → Calls Tryd.prog 14 #[vval x1 L] u fun e w' => ∃ L', e = .returned (vval x1 L') ∧ ILies w' L' x1.l ∧ Below u.heap.size u w') := fun L u h => own_own x1 L u i1 h
  have HOY : Hid (∀ (L : Value) (u : World), ILies u L (plainV x0).l → Calls Tryd.prog 14 #[vval (plainV x0) L] u fun e w' => ∃ L', e = .returned (vval (plainV x0) L') ∧ ILies w' L' (plainV x0).l ∧ Below u.heap.size u w') := fun L u h => own_own (plainV x0) L u (plain_in i0) h
  have HP0 : Hid (∀ (L : Value) (u : World), ILies u L x0.l → Calls Tryd.prog 8 #[vval x0 L] u fun e w' => ∃ L', e = .returned (vval (plainV x0) L') ∧ ILies w' L' (plainV x0).l ∧ Below u.heap.size u w') := fun L u h => own_plain x0 L u i0 h
  have HPY : Hid (∀ (L : Value) (u : World), ILies u L (plainV x0).l → Calls Tryd.prog 8 #[vval (plainV x0) L] u fun e w' => ∃ L', e = .returned (vval (plainV x0) L') ∧ ILies w' L' (plainV x0).l ∧ Below u.heap.size u w') := fun L u h => by
    have := own_plain (plainV x0) L u (plain_in i0) h
    rwa [plain_plain] at this
  have HX : Hid (∃ b T mm, sameV x0 x1 = b ∧ showV x0 = T ∧ mayV x0 = mm) := ⟨_, _, _, rfl, rfl, rfl⟩
  obtain ⟨b, T, mm, hb, hT, hmm⟩ := HX.out
  clear HX
  have HS01 : Hid (∀ V V' u, ILies u V x0.l → ILies u V' x1.l → Calls Tryd.prog 13 #[vval x0 V, vval x1 V'] u fun e w' => e = .returned (.bool b) ∧ Below u.heap.size u w') := fun V V' u h1 h2 => by rw [← hb]; exact own_same x0 x1 V V' u i0 i1 h1 h2
  have HSY : Hid (∀ V V' u, ILies u V (plainV x0).l → ILies u V' (plainV x0).l → Calls Tryd.prog 13 #[vval (plainV x0) V, vval (plainV x0) V'] u fun e w' => e = .returned (.bool true) ∧ Below u.heap.size u w') := fun V V' u h1 h2 => by
    have h := own_same (plainV x0) (plainV x0) V V' u (plain_in i0) (plain_in i0) h1 h2
    rwa [same_self] at h
  have HW0 : Hid (∀ V u, ILies u V x0.l → Below w.heap.size w u → Calls Tryd.prog 9 #[vval x0 V] u fun e w' => e = .returned (.string T) ∧ Below u.heap.size u w') := fun V u h1 h2 => by rw [← hT]; exact own_show x0 V u i0 h1 (fun _ => by omega) (hp.below h2)
  have HWY : Hid (∀ V u, ILies u V (plainV x0).l → Below w.heap.size w u → Calls Tryd.prog 9 #[vval (plainV x0) V] u fun e w' => e = .returned (.string T) ∧ Below u.heap.size u w') := fun V u h1 h2 => by rw [← hT, ← plain_show x0]; exact own_show (plainV x0) V u (plain_in i0) h1 (fun _ => by have := plain_len x0; omega) (hp.below h2)
  have HW1 : Hid (b = true → ∀ V u, ILies u V x1.l → Below w.heap.size w u → Calls Tryd.prog 9 #[vval x1 V] u fun e w' => e = .returned (.string T) ∧ Below u.heap.size u w') := fun hbt V u h1 h2 => by rw [← hT, ← same_show (hb.trans hbt)]; exact own_show x1 V u i1 h1 (fun _ => by omega) (hp.below h2)
  have HM0 : Hid (∀ V u, Calls Tryd.prog 16 #[vval x0 V] u fun e w' => e = .returned (.bool mm) ∧ Below u.heap.size u w') := fun V u => by rw [← hmm]; exact own_may x0 V u
  have HMY : Hid (∀ V u, Calls Tryd.prog 16 #[vval (plainV x0) V] u fun e w' => e = .returned (.bool mm) ∧ Below u.heap.size u w') := fun V u => by rw [← hmm, ← plain_may x0]; exact own_may (plainV x0) V u
  have HSH : Hid (∀ u, Below w.heap.size w u → Calls Tryd.prog 15 #[] u fun e w' => e = .returned (.bool true) ∧ Below u.heap.size u w') := fun u h => own_shown u (hp.below h)
  clear hb hT hmm
  generalize plainV x0 = y at *
  unfold vval
  go_enter Tryd.func5, Tryd.ntmps5
  go_wp2_with fail
  refine (HO0.out L0 _ (m0.below (below2 w _ _) (Nat.le_refl _))).mono ?_
  rintro e u1 ⟨V1, rfl, l1, hb1⟩
  obtain ⟨hh1, hh2, hz, hbb⟩ := two_boxes hb1
  have HX0 : Hid _ := hh1
  have HX1 : Hid _ := hh2
  have HBA : Hid (Below w.heap.size w u1) := hbb
  have HZ1 : Hid (w.heap.size + 1 < u1.heap.size) := hz
  clear hb1 hh1 hh2 hbb hz
  go_wp2_with fail
  refine (HP0.out V1 _ l1).mono ?_
  rintro e u2 ⟨P, rfl, l2, hb2⟩
  obtain ⟨po, pc, rfl⟩ := l2.shape
  have HZ2 : Hid (w.heap.size + 1 < u2.heap.size) := Nat.lt_of_lt_of_le HZ1.out hb2.size
  have HX02 : Hid _ := (hb2.block _ (by have := HZ1.out; omega)).trans HX0.out
  have HX12 : Hid _ := (hb2.block _ HZ1.out).trans HX1.out
  have HBA2 : Hid (Below w.heap.size w u2) := HBA.out.trans (hb2.mono HBA.out.size)
  have HLP : Hid (ILies (u2.alloc (.cells #[.int .i64 y.kind, .int .i64 y.n, .string y.s, .slice po y.l.length pc] 24)) (.slice po y.l.length pc) y.l) := l2.below show_below (Nat.le_refl _)
  clear hb2 l2 l1 HX0 HX1 HBA HZ1
  unfold vval
  go_wp2_with fail
  refine (HOY.out _ _ HLP.out).mono ?_
  rintro e u3 ⟨V3, rfl, l3, hb3⟩
  go_wp2_with fail
  refine (HPY.out V3 _ l3).mono ?_
  rintro e u4 ⟨Qv, rfl, l4, hb4⟩
  obtain ⟨qo, qc, rfl⟩ := l4.shape
  have HB4 : Hid (Below (u2.alloc (.cells #[.int .i64 y.kind, .int .i64 y.n, .string y.s, .slice po y.l.length pc] 24)).heap.size (u2.alloc (.cells #[.int .i64 y.kind, .int .i64 y.n, .string y.s, .slice po y.l.length pc] 24)) u4) := hb3.trans (hb4.mono hb3.size)
  have HLQ : Hid (ILies u4 (.slice qo y.l.length qc) y.l) := l4
  clear hb3 hb4 l3 l4
  have HB : Hid (∀ u, Below (u4.alloc (.cells #[.int .i64 y.kind, .int .i64 y.n, .string y.s, .slice qo y.l.length qc] 24)).heap.size (u4.alloc (.cells #[.int .i64 y.kind, .int .i64 y.n, .string y.s, .slice qo y.l.length qc] 24)) u → u.heap[w.heap.size]? = some (.cells #[.int .i64 x0.kind, .int .i64 x0.n, .string x0.s, L0] 24) ∧ u.heap[w.heap.size + 1]? = some (.cells #[.int .i64 x1.kind, .int .i64 x1.n, .string x1.s, L1] 24) ∧ u.heap[u2.heap.size]? = some (.cells #[.int .i64 y.kind, .int .i64 y.n, .string y.s, .slice po y.l.length pc] 24) ∧ u.heap[u4.heap.size]? = some (.cells #[.int .i64 y.kind, .int .i64 y.n, .string y.s, .slice qo y.l.length qc] 24) ∧ Below w.heap.size w u ∧ ILies u (.slice po y.l.length pc) y.l ∧ ILies u (.slice qo y.l.length qc) y.l) := fun u h => by
    have h1 := below_up h
    have h2 := below_up HB4.out
    have s1 := h1.size
    have s2 := HB4.out.size
    have z2 := HZ2.out
    simp at s2
    refine ⟨?_, ?_, ?_, box_stays h, (HBA2.out.trans (h2.mono HBA2.out.size)).trans (h1.mono (by have := HBA2.out.size; omega)), ?_, ?_⟩
    · rw [h1.block _ (by omega), h2.block _ (by omega)]; exact HX02.out
    · rw [h1.block _ (by omega), h2.block _ (by omega)]; exact HX12.out
    · rw [h1.block _ (by omega)]; exact box_stays HB4.out
    · exact (HLP.out.below HB4.out (Nat.le_refl _)).below h1 (Nat.le_refl _)
    · exact HLQ.out.below h1 (Nat.le_refl _)
  clear HX02 HX12 HBA2 HB4 HLQ HLP HZ2
  unfold vval
  go_wp2_with fail
  cases b with
  | false =>
    refine wp_grow [isV (.bool true), isV (.bool false), isV (.bool false), isV (vval x0 L0), isVal x0, isV (vval x1 L1), isVal x1, isV (.bool false), isV (.bool false), anyV, anyV, anyV, anyV, anyV, anyV, anyV, isV (.bool false), isV (.bool false)]
      ⟨stab_is _, stab_is _, stab_is _, stab_is _, stab_val _, stab_is _, stab_val _, stab_is _, stab_is _, stab_any, stab_any, stab_any, stab_any, stab_any, stab_any, stab_any, stab_is _, stab_is _, trivial⟩ (by kernel_rfl) (by kernel_rfl) (by kernel_rfl) ?_ ?_
    · refine stepsOK_cons (fun f u hG hd K hK => ?_) (stepsOK_cons (fun f u hG hd K hK => ?_) (stepsOK_cons (fun f u hG hd K hK => ?_) (stepsOK_cons (fun f u hG hd K hK => ?_) (stepsOK_cons (fun f u hG hd K hK => ?_) (stepsOK_cons (fun f u hG hd K hK => ?_) (stepsOK_cons (fun f u hG hd K hK => ?_) (stepsOK_cons (fun f u hG hd K hK => ?_) (stepsOK_cons (fun f u hG hd K hK => ?_) (stepsOK_cons (fun f u hG hd K hK => ?_) (stepsOK_cons (fun f u hG hd K hK => ?_) (stepsOK_cons (fun f u hG hd K hK => ?_) (stepsOK_cons (fun f u hG hd K hK => ?_) (stepsOK_cons (fun f u hG hd K hK => ?_) (stepsOK_cons (fun f u hG hd K hK => ?_) (stepsOK_cons (fun f u hG hd K hK => ?_) (stepsOK_cons (fun f u hG hd K hK => ?_) (stepsOK_cons (fun f u hG hd K hK => ?_) stepsOK_nil)))))))))))))))))
      · refine wanted_on rfl ?_
        simp only [putAll, Act.put, List.setIfInBounds_toArray, List.set_cons_zero, List.set_cons_succ] at hK ⊢
        go_simp
        refine (HSH.out u (HB.out _ hG).2.2.2.2.1).mono ?_
        rintro e u1 ⟨rfl, hb⟩
        exact hK _ _ _ rfl (hG.trans (hb.mono hG.size)) hb rfl
      · have e0 : f 0 = (.bool true) := hd 0 (by kernel_rfl)
        refine wanted_on rfl ?_
        simp only [putAll, Act.put, List.setIfInBounds_toArray, List.set_cons_zero, List.set_cons_succ, e0] at hK ⊢
        go_simp
        exact hK _ _ _ rfl hG (Below.refl _ _) rfl
      · have e1 : f 1 = (.bool false) := hd 1 (by kernel_rfl)
        refine wanted_on rfl ?_
        simp only [putAll, Act.put, List.setIfInBounds_toArray, List.set_cons_zero, List.set_cons_succ, e1] at hK ⊢
        go_simp
        exact hK _ _ _ rfl hG (Below.refl _ _) rfl
      · have e2 : f 2 = (.bool false) := hd 2 (by kernel_rfl)
        obtain ⟨⟨c0, c1, c2, c3⟩, _⟩ := box4 ((HB.out _ hG).1)
        refine wanted_on (by simp [Region.wanted, yielded, putAll, Act.put, List.setIfInBounds_toArray, List.set_cons_zero, List.set_cons_succ, e2]) ?_
        simp only [putAll, Act.put, List.setIfInBounds_toArray, List.set_cons_zero, List.set_cons_succ, e2] at hK ⊢
        go_simp
        exact hK _ _ _ rfl hG (Below.refl _ _) rfl
      · have e2 : f 2 = (.bool false) := hd 2 (by kernel_rfl)
        have e3 : f 3 = (vval x0 L0) := hd 3 (by kernel_rfl)
        refine wanted_on (by simp [Region.wanted, yielded, putAll, Act.put, List.setIfInBounds_toArray, List.set_cons_zero, List.set_cons_succ, e2, e3]) ?_
        simp only [putAll, Act.put, List.setIfInBounds_toArray, List.set_cons_zero, List.set_cons_succ, e2, e3] at hK ⊢
        go_simp
        refine (HO0.out _ _ (m0.below (HB.out _ hG).2.2.2.2.1 (Nat.le_refl _))).mono ?_
        rintro e u1 ⟨V, rfl, h1, hb⟩
        exact hK _ _ _ rfl (hG.trans (hb.mono hG.size)) hb ⟨_, rfl, h1⟩
      · have e2 : f 2 = (.bool false) := hd 2 (by kernel_rfl)
        obtain ⟨⟨c0, c1, c2, c3⟩, _⟩ := box4 ((HB.out _ hG).2.1)
        refine wanted_on (by simp [Region.wanted, yielded, putAll, Act.put, List.setIfInBounds_toArray, List.set_cons_zero, List.set_cons_succ, e2]) ?_
        simp only [putAll, Act.put, List.setIfInBounds_toArray, List.set_cons_zero, List.set_cons_succ, e2] at hK ⊢
        go_simp
        exact hK _ _ _ rfl hG (Below.refl _ _) rfl
      · have e2 : f 2 = (.bool false) := hd 2 (by kernel_rfl)
        have e5 : f 5 = (vval x1 L1) := hd 5 (by kernel_rfl)
        refine wanted_on (by simp [Region.wanted, yielded, putAll, Act.put, List.setIfInBounds_toArray, List.set_cons_zero, List.set_cons_succ, e2, e5]) ?_
        simp only [putAll, Act.put, List.setIfInBounds_toArray, List.set_cons_zero, List.set_cons_succ, e2, e5] at hK ⊢
        go_simp
        refine (HO1.out _ _ (m1.below (HB.out _ hG).2.2.2.2.1 (Nat.le_refl _))).mono ?_
        rintro e u1 ⟨V, rfl, h1, hb⟩
        exact hK _ _ _ rfl (hG.trans (hb.mono hG.size)) hb ⟨_, rfl, h1⟩
      · have e2 : f 2 = (.bool false) := hd 2 (by kernel_rfl)
        obtain ⟨V4, e4, q4⟩ := hd 4 (by kernel_rfl)
        obtain ⟨V6, e6, q6⟩ := hd 6 (by kernel_rfl)
        refine wanted_on (by simp [Region.wanted, yielded, putAll, Act.put, List.setIfInBounds_toArray, List.set_cons_zero, List.set_cons_succ, e2, e4, e6]) ?_
        simp only [putAll, Act.put, List.setIfInBounds_toArray, List.set_cons_zero, List.set_cons_succ, e2, e4, e6] at hK ⊢
        go_simp
        refine (HS01.out V4 V6 u q4 q6).mono ?_
        rintro e u1 ⟨rfl, hb⟩
        exact hK _ _ _ rfl (hG.trans (hb.mono hG.size)) hb rfl
      · have e2 : f 2 = (.bool false) := hd 2 (by kernel_rfl)
        have e7 : f 7 = (.bool false) := hd 7 (by kernel_rfl)
        refine wanted_on (by simp [Region.wanted, yielded, putAll, Act.put, List.setIfInBounds_toArray, List.set_cons_zero, List.set_cons_succ, e2, e7]) ?_
        simp only [putAll, Act.put, List.setIfInBounds_toArray, List.set_cons_zero, List.set_cons_succ, e2, e7] at hK ⊢
        go_simp
        exact hK _ _ _ rfl hG (Below.refl _ _) rfl
      · have e8 : f 8 = (.bool false) := hd 8 (by kernel_rfl)
        refine wanted_off (by simp [Region.wanted, yielded, putAll, Act.put, List.setIfInBounds_toArray, List.set_cons_zero, List.set_cons_succ, e8]) ?_
        exact hK _ _ _ rfl hG (Below.refl _ _) trivial
      · have e8 : f 8 = (.bool false) := hd 8 (by kernel_rfl)
        refine wanted_off (by simp [Region.wanted, yielded, putAll, Act.put, List.setIfInBounds_toArray, List.set_cons_zero, List.set_cons_succ, e8]) ?_
        exact hK _ _ _ rfl hG (Below.refl _ _) trivial
      · have e8 : f 8 = (.bool false) := hd 8 (by kernel_rfl)
        refine wanted_off (by simp [Region.wanted, yielded, putAll, Act.put, List.setIfInBounds_toArray, List.set_cons_zero, List.set_cons_succ, e8]) ?_
        exact hK _ _ _ rfl hG (Below.refl _ _) trivial
      · have e8 : f 8 = (.bool false) := hd 8 (by kernel_rfl)
        refine wanted_off (by simp [Region.wanted, yielded, putAll, Act.put, List.setIfInBounds_toArray, List.set_cons_zero, List.set_cons_succ, e8]) ?_
        exact hK _ _ _ rfl hG (Below.refl _ _) trivial
      · have e8 : f 8 = (.bool false) := hd 8 (by kernel_rfl)
        refine wanted_off (by simp [Region.wanted, yielded, putAll, Act.put, List.setIfInBounds_toArray, List.set_cons_zero, List.set_cons_succ, e8]) ?_
        exact hK _ _ _ rfl hG (Below.refl _ _) trivial
      · have e8 : f 8 = (.bool false) := hd 8 (by kernel_rfl)
        refine wanted_off (by simp [Region.wanted, yielded, putAll, Act.put, List.setIfInBounds_toArray, List.set_cons_zero, List.set_cons_succ, e8]) ?_
        exact hK _ _ _ rfl hG (Below.refl _ _) trivial
      · have e8 : f 8 = (.bool false) := hd 8 (by kernel_rfl)
        refine wanted_off (by simp [Region.wanted, yielded, putAll, Act.put, List.setIfInBounds_toArray, List.set_cons_zero, List.set_cons_succ, e8]) ?_
        exact hK _ _ _ rfl hG (Below.refl _ _) trivial
      · have e2 : f 2 = (.bool false) := hd 2 (by kernel_rfl)
        have e8 : f 8 = (.bool false) := hd 8 (by kernel_rfl)
        refine wanted_on (by simp [Region.wanted, yielded, putAll, Act.put, List.setIfInBounds_toArray, List.set_cons_zero, List.set_cons_succ, e2, e8]) ?_
        simp only [putAll, Act.put, List.setIfInBounds_toArray, List.set_cons_zero, List.set_cons_succ, e2, e8] at hK ⊢
        go_simp
        exact hK _ _ _ rfl hG (Below.refl _ _) rfl
      · have e2 : f 2 = (.bool false) := hd 2 (by kernel_rfl)
        have e16 : f 16 = (.bool false) := hd 16 (by kernel_rfl)
        refine wanted_on rfl ?_
        simp only [putAll, Act.put, List.setIfInBounds_toArray, List.set_cons_zero, List.set_cons_succ, e2, e16] at hK ⊢
        go_simp
        exact hK _ _ _ rfl hG (Below.refl _ _) rfl
    · intro f3 u5 hG hf
      have HG3 : Hid (Below (u4.alloc (.cells #[.int .i64 y.kind, .int .i64 y.n, .string y.s, .slice qo y.l.length qc] 24)).heap.size (u4.alloc (.cells #[.int .i64 y.kind, .int .i64 y.n, .string y.s, .slice qo y.l.length qc] 24)) u5) := hG
      have e17 : f3 17 = .bool false := hf 17 (by decide)
      simp only [putAll, Act.put, List.setIfInBounds_toArray, List.set_cons_zero, List.set_cons_succ, e17]
      clear hf e17 hG
      go_wp2_with fail
      refine wp_grow [isV (vval y (.slice po y.l.length pc)), isVal y, isV (.string T), isV (vval x0 L0), isVal x0, isV (.string T), isV (.bool true), isV (.bool true), isV (vval y (.slice po y.l.length pc)), isVal y, isV (vval y (.slice qo y.l.length qc)), isVal y, isV (.bool true), isV (.bool true), isV (.bool true), isV (.pointer (some ⟨u2.heap.size, 1, none⟩)), isV (.int .i64 y.n), isV (.pointer (some ⟨u4.heap.size, 1, none⟩)), isV (.int .i64 y.n), isV (.bool true), isV (.bool true), isV (.bool true), isV (.pointer (some ⟨u2.heap.size, 2, none⟩)), isV (.string y.s), isV (.pointer (some ⟨u4.heap.size, 2, none⟩)), isV (.string y.s), isV (.bool true), isV (.bool true), isV (.bool true), isV (.pointer (some ⟨u2.heap.size, 3, none⟩)), isV (.slice po y.l.length pc), isV (.int .i64 y.l.length), isV (.pointer (some ⟨u4.heap.size, 3, none⟩)), isV (.slice qo y.l.length qc), isV (.int .i64 y.l.length), isV (.bool true), isV (.bool true), isV (.bool true), isV (vval x0 L0), isVal x0, isV (.bool mm), isV (vval y (.slice po y.l.length pc)), isVal y, isV (.bool mm), isV (.bool true), isV (.bool true), isV (.bool true)]
        ⟨stab_is _, stab_val _, stab_is _, stab_is _, stab_val _, stab_is _, stab_is _, stab_is _, stab_is _, stab_val _, stab_is _, stab_val _, stab_is _, stab_is _, stab_is _, stab_is _, stab_is _, stab_is _, stab_is _, stab_is _, stab_is _, stab_is _, stab_is _, stab_is _, stab_is _, stab_is _, stab_is _, stab_is _, stab_is _, stab_is _, stab_is _, stab_is _, stab_is _, stab_is _, stab_is _, stab_is _, stab_is _, stab_is _, stab_is _, stab_val _, stab_is _, stab_is _, stab_val _, stab_is _, stab_is _, stab_is _, stab_is _, trivial⟩ (by kernel_rfl) (by kernel_rfl) (by kernel_rfl) ?_ ?_
      · refine stepsOK_cons (fun f u hG hd K hK => ?_) (stepsOK_cons (fun f u hG hd K hK => ?_) (stepsOK_cons (fun f u hG hd K hK => ?_) (stepsOK_cons (fun f u hG hd K hK => ?_) (stepsOK_cons (fun f u hG hd K hK => ?_) (stepsOK_cons (fun f u hG hd K hK => ?_) (stepsOK_cons (fun f u hG hd K hK => ?_) (stepsOK_cons (fun f u hG hd K hK => ?_) (stepsOK_cons (fun f u hG hd K hK => ?_) (stepsOK_cons (fun f u hG hd K hK => ?_) (stepsOK_cons (fun f u hG hd K hK => ?_) (stepsOK_cons (fun f u hG hd K hK => ?_) (stepsOK_cons (fun f u hG hd K hK => ?_) (stepsOK_cons (fun f u hG hd K hK => ?_) (stepsOK_cons (fun f u hG hd K hK => ?_) (stepsOK_cons (fun f u hG hd K hK => ?_) (stepsOK_cons (fun f u hG hd K hK => ?_) (stepsOK_cons (fun f u hG hd K hK => ?_) (stepsOK_cons (fun f u hG hd K hK => ?_) (stepsOK_cons (fun f u hG hd K hK => ?_) (stepsOK_cons (fun f u hG hd K hK => ?_) (stepsOK_cons (fun f u hG hd K hK => ?_) (stepsOK_cons (fun f u hG hd K hK => ?_) (stepsOK_cons (fun f u hG hd K hK => ?_) (stepsOK_cons (fun f u hG hd K hK => ?_) (stepsOK_cons (fun f u hG hd K hK => ?_) (stepsOK_cons (fun f u hG hd K hK => ?_) (stepsOK_cons (fun f u hG hd K hK => ?_) (stepsOK_cons (fun f u hG hd K hK => ?_) (stepsOK_cons (fun f u hG hd K hK => ?_) (stepsOK_cons (fun f u hG hd K hK => ?_) (stepsOK_cons (fun f u hG hd K hK => ?_) (stepsOK_cons (fun f u hG hd K hK => ?_) (stepsOK_cons (fun f u hG hd K hK => ?_) (stepsOK_cons (fun f u hG hd K hK => ?_) (stepsOK_cons (fun f u hG hd K hK => ?_) (stepsOK_cons (fun f u hG hd K hK => ?_) (stepsOK_cons (fun f u hG hd K hK => ?_) (stepsOK_cons (fun f u hG hd K hK => ?_) (stepsOK_cons (fun f u hG hd K hK => ?_) (stepsOK_cons (fun f u hG hd K hK => ?_) (stepsOK_cons (fun f u hG hd K hK => ?_) (stepsOK_cons (fun f u hG hd K hK => ?_) (stepsOK_cons (fun f u hG hd K hK => ?_) (stepsOK_cons (fun f u hG hd K hK => ?_) (stepsOK_cons (fun f u hG hd K hK => ?_) (stepsOK_cons (fun f u hG hd K hK => ?_) stepsOK_nil))))))))))))))))))))))))))))))))))))))))))))))
        · obtain ⟨⟨c0, c1, c2, c3⟩, _⟩ := box4 ((HB.out _ (HG3.out.trans (hG.mono HG3.out.size))).2.2.1)
          refine wanted_on rfl ?_
          simp only [putAll, Act.put, List.setIfInBounds_toArray, List.set_cons_zero, List.set_cons_succ] at hK ⊢
          go_simp
          exact hK _ _ _ rfl hG (Below.refl _ _) rfl
        · have e0 : f 0 = (vval y (.slice po y.l.length pc)) := hd 0 (by kernel_rfl)
          refine wanted_on rfl ?_
          simp only [putAll, Act.put, List.setIfInBounds_toArray, List.set_cons_zero, List.set_cons_succ, e0] at hK ⊢
          go_simp
          refine (HOY.out _ _ (HB.out _ (HG3.out.trans (hG.mono HG3.out.size))).2.2.2.2.2.1).mono ?_
          rintro e u1 ⟨V, rfl, h1, hb⟩
          exact hK _ _ _ rfl (hG.trans (hb.mono hG.size)) hb ⟨_, rfl, h1⟩
        · obtain ⟨V1, e1, q1⟩ := hd 1 (by kernel_rfl)
          refine wanted_on rfl ?_
          simp only [putAll, Act.put, List.setIfInBounds_toArray, List.set_cons_zero, List.set_cons_succ, e1] at hK ⊢
          go_simp
          refine (HWY.out V1 u q1 (HB.out _ (HG3.out.trans (hG.mono HG3.out.size))).2.2.2.2.1).mono ?_
          rintro e u1 ⟨rfl, hb⟩
          exact hK _ _ _ rfl (hG.trans (hb.mono hG.size)) hb rfl
        · obtain ⟨⟨c0, c1, c2, c3⟩, _⟩ := box4 ((HB.out _ (HG3.out.trans (hG.mono HG3.out.size))).1)
          refine wanted_on rfl ?_
          simp only [putAll, Act.put, List.setIfInBounds_toArray, List.set_cons_zero, List.set_cons_succ] at hK ⊢
          go_simp
          exact hK _ _ _ rfl hG (Below.refl _ _) rfl
        · have e3 : f 3 = (vval x0 L0) := hd 3 (by kernel_rfl)
          refine wanted_on rfl ?_
          simp only [putAll, Act.put, List.setIfInBounds_toArray, List.set_cons_zero, List.set_cons_succ, e3] at hK ⊢
          go_simp
          refine (HO0.out _ _ (m0.below (HB.out _ (HG3.out.trans (hG.mono HG3.out.size))).2.2.2.2.1 (Nat.le_refl _))).mono ?_
          rintro e u1 ⟨V, rfl, h1, hb⟩
          exact hK _ _ _ rfl (hG.trans (hb.mono hG.size)) hb ⟨_, rfl, h1⟩
        · obtain ⟨V4, e4, q4⟩ := hd 4 (by kernel_rfl)
          refine wanted_on rfl ?_
          simp only [putAll, Act.put, List.setIfInBounds_toArray, List.set_cons_zero, List.set_cons_succ, e4] at hK ⊢
          go_simp
          refine (HW0.out V4 u q4 (HB.out _ (HG3.out.trans (hG.mono HG3.out.size))).2.2.2.2.1).mono ?_
          rintro e u1 ⟨rfl, hb⟩
          exact hK _ _ _ rfl (hG.trans (hb.mono hG.size)) hb rfl
        · have e2 : f 2 = (.string T) := hd 2 (by kernel_rfl)
          have e5 : f 5 = (.string T) := hd 5 (by kernel_rfl)
          refine wanted_on rfl ?_
          simp only [putAll, Act.put, List.setIfInBounds_toArray, List.set_cons_zero, List.set_cons_succ, e2, e5] at hK ⊢
          go_simp
          exact hK _ _ _ rfl hG (Below.refl _ _) (by simp [isV, atR])
        · have e6 : f 6 = (.bool true) := hd 6 (by kernel_rfl)
          refine wanted_on rfl ?_
          simp only [putAll, Act.put, List.setIfInBounds_toArray, List.set_cons_zero, List.set_cons_succ, e6] at hK ⊢
          go_simp
          exact hK _ _ _ rfl hG (Below.refl _ _) rfl
        · have e7 : f 7 = (.bool true) := hd 7 (by kernel_rfl)
          obtain ⟨⟨c0, c1, c2, c3⟩, _⟩ := box4 ((HB.out _ (HG3.out.trans (hG.mono HG3.out.size))).2.2.1)
          refine wanted_on (by simp [Region.wanted, yielded, putAll, Act.put, List.setIfInBounds_toArray, List.set_cons_zero, List.set_cons_succ, e7]) ?_
          simp only [putAll, Act.put, List.setIfInBounds_toArray, List.set_cons_zero, List.set_cons_succ, e7] at hK ⊢
          go_simp
          exact hK _ _ _ rfl hG (Below.refl _ _) rfl
        · have e7 : f 7 = (.bool true) := hd 7 (by kernel_rfl)
          have e8 : f 8 = (vval y (.slice po y.l.length pc)) := hd 8 (by kernel_rfl)
          refine wanted_on (by simp [Region.wanted, yielded, putAll, Act.put, List.setIfInBounds_toArray, List.set_cons_zero, List.set_cons_succ, e7, e8]) ?_
          simp only [putAll, Act.put, List.setIfInBounds_toArray, List.set_cons_zero, List.set_cons_succ, e7, e8] at hK ⊢
          go_simp
          refine (HOY.out _ _ (HB.out _ (HG3.out.trans (hG.mono HG3.out.size))).2.2.2.2.2.1).mono ?_
          rintro e u1 ⟨V, rfl, h1, hb⟩
          exact hK _ _ _ rfl (hG.trans (hb.mono hG.size)) hb ⟨_, rfl, h1⟩
        · have e7 : f 7 = (.bool true) := hd 7 (by kernel_rfl)
          obtain ⟨⟨c0, c1, c2, c3⟩, _⟩ := box4 ((HB.out _ (HG3.out.trans (hG.mono HG3.out.size))).2.2.2.1)
          refine wanted_on (by simp [Region.wanted, yielded, putAll, Act.put, List.setIfInBounds_toArray, List.set_cons_zero, List.set_cons_succ, e7]) ?_
          simp only [putAll, Act.put, List.setIfInBounds_toArray, List.set_cons_zero, List.set_cons_succ, e7] at hK ⊢
          go_simp
          exact hK _ _ _ rfl hG (Below.refl _ _) rfl
        · have e7 : f 7 = (.bool true) := hd 7 (by kernel_rfl)
          have e10 : f 10 = (vval y (.slice qo y.l.length qc)) := hd 10 (by kernel_rfl)
          refine wanted_on (by simp [Region.wanted, yielded, putAll, Act.put, List.setIfInBounds_toArray, List.set_cons_zero, List.set_cons_succ, e7, e10]) ?_
          simp only [putAll, Act.put, List.setIfInBounds_toArray, List.set_cons_zero, List.set_cons_succ, e7, e10] at hK ⊢
          go_simp
          refine (HOY.out _ _ (HB.out _ (HG3.out.trans (hG.mono HG3.out.size))).2.2.2.2.2.2).mono ?_
          rintro e u1 ⟨V, rfl, h1, hb⟩
          exact hK _ _ _ rfl (hG.trans (hb.mono hG.size)) hb ⟨_, rfl, h1⟩
        · have e7 : f 7 = (.bool true) := hd 7 (by kernel_rfl)
          obtain ⟨V9, e9, q9⟩ := hd 9 (by kernel_rfl)
          obtain ⟨V11, e11, q11⟩ := hd 11 (by kernel_rfl)
          refine wanted_on (by simp [Region.wanted, yielded, putAll, Act.put, List.setIfInBounds_toArray, List.set_cons_zero, List.set_cons_succ, e7, e9, e11]) ?_
          simp only [putAll, Act.put, List.setIfInBounds_toArray, List.set_cons_zero, List.set_cons_succ, e7, e9, e11] at hK ⊢
          go_simp
          refine (HSY.out V9 V11 u q9 q11).mono ?_
          rintro e u1 ⟨rfl, hb⟩
          exact hK _ _ _ rfl (hG.trans (hb.mono hG.size)) hb rfl
        · have e7 : f 7 = (.bool true) := hd 7 (by kernel_rfl)
          have e12 : f 12 = (.bool true) := hd 12 (by kernel_rfl)
          refine wanted_on rfl ?_
          simp only [putAll, Act.put, List.setIfInBounds_toArray, List.set_cons_zero, List.set_cons_succ, e7, e12] at hK ⊢
          go_simp
          exact hK _ _ _ rfl hG (Below.refl _ _) rfl
        · have e13 : f 13 = (.bool true) := hd 13 (by kernel_rfl)
          refine wanted_on rfl ?_
          simp only [putAll, Act.put, List.setIfInBounds_toArray, List.set_cons_zero, List.set_cons_succ, e13] at hK ⊢
          go_simp
          exact hK _ _ _ rfl hG (Below.refl _ _) rfl
        · have e14 : f 14 = (.bool true) := hd 14 (by kernel_rfl)
          refine wanted_on (by simp [Region.wanted, yielded, putAll, Act.put, List.setIfInBounds_toArray, List.set_cons_zero, List.set_cons_succ, e14]) ?_
          simp only [putAll, Act.put, List.setIfInBounds_toArray, List.set_cons_zero, List.set_cons_succ, e14] at hK ⊢
          go_simp
          exact hK _ _ _ rfl hG (Below.refl _ _) rfl
        · have e14 : f 14 = (.bool true) := hd 14 (by kernel_rfl)
          have e15 : f 15 = (.pointer (some ⟨u2.heap.size, 1, none⟩)) := hd 15 (by kernel_rfl)
          obtain ⟨⟨c0, c1, c2, c3⟩, _⟩ := box4 ((HB.out _ (HG3.out.trans (hG.mono HG3.out.size))).2.2.1)
          refine wanted_on (by simp [Region.wanted, yielded, putAll, Act.put, List.setIfInBounds_toArray, List.set_cons_zero, List.set_cons_succ, e14, e15]) ?_
          simp only [putAll, Act.put, List.setIfInBounds_toArray, List.set_cons_zero, List.set_cons_succ, e14, e15] at hK ⊢
          go_simp
          exact hK _ _ _ rfl hG (Below.refl _ _) rfl
        · have e14 : f 14 = (.bool true) := hd 14 (by kernel_rfl)
          refine wanted_on (by simp [Region.wanted, yielded, putAll, Act.put, List.setIfInBounds_toArray, List.set_cons_zero, List.set_cons_succ, e14]) ?_
          simp only [putAll, Act.put, List.setIfInBounds_toArray, List.set_cons_zero, List.set_cons_succ, e14] at hK ⊢
          go_simp
          exact hK _ _ _ rfl hG (Below.refl _ _) rfl
        · have e14 : f 14 = (.bool true) := hd 14 (by kernel_rfl)
          have e17 : f 17 = (.pointer (some ⟨u4.heap.size, 1, none⟩)) := hd 17 (by kernel_rfl)
          obtain ⟨⟨c0, c1, c2, c3⟩, _⟩ := box4 ((HB.out _ (HG3.out.trans (hG.mono HG3.out.size))).2.2.2.1)
          refine wanted_on (by simp [Region.wanted, yielded, putAll, Act.put, List.setIfInBounds_toArray, List.set_cons_zero, List.set_cons_succ, e14, e17]) ?_
          simp only [putAll, Act.put, List.setIfInBounds_toArray, List.set_cons_zero, List.set_cons_succ, e14, e17] at hK ⊢
          go_simp
          exact hK _ _ _ rfl hG (Below.refl _ _) rfl
        · have e14 : f 14 = (.bool true) := hd 14 (by kernel_rfl)
          have e16 : f 16 = (.int .i64 y.n) := hd 16 (by kernel_rfl)
          have e18 : f 18 = (.int .i64 y.n) := hd 18 (by kernel_rfl)
          refine wanted_on (by simp [Region.wanted, yielded, putAll, Act.put, List.setIfInBounds_toArray, List.set_cons_zero, List.set_cons_succ, e14, e16, e18]) ?_
          simp only [putAll, Act.put, List.setIfInBounds_toArray, List.set_cons_zero, List.set_cons_succ, e14, e16, e18] at hK ⊢
          go_simp
          exact hK _ _ _ rfl hG (Below.refl _ _) (by simp [isV, atR])
        · have e14 : f 14 = (.bool true) := hd 14 (by kernel_rfl)
          have e19 : f 19 = (.bool true) := hd 19 (by kernel_rfl)
          refine wanted_on rfl ?_
          simp only [putAll, Act.put, List.setIfInBounds_toArray, List.set_cons_zero, List.set_cons_succ, e14, e19] at hK ⊢
          go_simp
          exact hK _ _ _ rfl hG (Below.refl _ _) rfl
        · have e20 : f 20 = (.bool true) := hd 20 (by kernel_rfl)
          refine wanted_on rfl ?_
          simp only [putAll, Act.put, List.setIfInBounds_toArray, List.set_cons_zero, List.set_cons_succ, e20] at hK ⊢
          go_simp
          exact hK _ _ _ rfl hG (Below.refl _ _) rfl
        · have e21 : f 21 = (.bool true) := hd 21 (by kernel_rfl)
          refine wanted_on (by simp [Region.wanted, yielded, putAll, Act.put, List.setIfInBounds_toArray, List.set_cons_zero, List.set_cons_succ, e21]) ?_
          simp only [putAll, Act.put, List.setIfInBounds_toArray, List.set_cons_zero, List.set_cons_succ, e21] at hK ⊢
          go_simp
          exact hK _ _ _ rfl hG (Below.refl _ _) rfl
        · have e21 : f 21 = (.bool true) := hd 21 (by kernel_rfl)
          have e22 : f 22 = (.pointer (some ⟨u2.heap.size, 2, none⟩)) := hd 22 (by kernel_rfl)
          obtain ⟨⟨c0, c1, c2, c3⟩, _⟩ := box4 ((HB.out _ (HG3.out.trans (hG.mono HG3.out.size))).2.2.1)
          refine wanted_on (by simp [Region.wanted, yielded, putAll, Act.put, List.setIfInBounds_toArray, List.set_cons_zero, List.set_cons_succ, e21, e22]) ?_
          simp only [putAll, Act.put, List.setIfInBounds_toArray, List.set_cons_zero, List.set_cons_succ, e21, e22] at hK ⊢
          go_simp
          exact hK _ _ _ rfl hG (Below.refl _ _) rfl
        · have e21 : f 21 = (.bool true) := hd 21 (by kernel_rfl)
          refine wanted_on (by simp [Region.wanted, yielded, putAll, Act.put, List.setIfInBounds_toArray, List.set_cons_zero, List.set_cons_succ, e21]) ?_
          simp only [putAll, Act.put, List.setIfInBounds_toArray, List.set_cons_zero, List.set_cons_succ, e21] at hK ⊢
          go_simp
          exact hK _ _ _ rfl hG (Below.refl _ _) rfl
        · have e21 : f 21 = (.bool true) := hd 21 (by kernel_rfl)
          have e24 : f 24 = (.pointer (some ⟨u4.heap.size, 2, none⟩)) := hd 24 (by kernel_rfl)
          obtain ⟨⟨c0, c1, c2, c3⟩, _⟩ := box4 ((HB.out _ (HG3.out.trans (hG.mono HG3.out.size))).2.2.2.1)
          refine wanted_on (by simp [Region.wanted, yielded, putAll, Act.put, List.setIfInBounds_toArray, List.set_cons_zero, List.set_cons_succ, e21, e24]) ?_
          simp only [putAll, Act.put, List.setIfInBounds_toArray, List.set_cons_zero, List.set_cons_succ, e21, e24] at hK ⊢
          go_simp
          exact hK _ _ _ rfl hG (Below.refl _ _) rfl
        · have e21 : f 21 = (.bool true) := hd 21 (by kernel_rfl)
          have e23 : f 23 = (.string y.s) := hd 23 (by kernel_rfl)
          have e25 : f 25 = (.string y.s) := hd 25 (by kernel_rfl)
          refine wanted_on (by simp [Region.wanted, yielded, putAll, Act.put, List.setIfInBounds_toArray, List.set_cons_zero, List.set_cons_succ, e21, e23, e25]) ?_
          simp only [putAll, Act.put, List.setIfInBounds_toArray, List.set_cons_zero, List.set_cons_succ, e21, e23, e25] at hK ⊢
          go_simp
          exact hK _ _ _ rfl hG (Below.refl _ _) (by simp [isV, atR])
        · have e21 : f 21 = (.bool true) := hd 21 (by kernel_rfl)
          have e26 : f 26 = (.bool true) := hd 26 (by kernel_rfl)
          refine wanted_on rfl ?_
          simp only [putAll, Act.put, List.setIfInBounds_toArray, List.set_cons_zero, List.set_cons_succ, e21, e26] at hK ⊢
          go_simp
          exact hK _ _ _ rfl hG (Below.refl _ _) rfl
        · have e27 : f 27 = (.bool true) := hd 27 (by kernel_rfl)
          refine wanted_on rfl ?_
          simp only [putAll, Act.put, List.setIfInBounds_toArray, List.set_cons_zero, List.set_cons_succ, e27] at hK ⊢
          go_simp
          exact hK _ _ _ rfl hG (Below.refl _ _) rfl
        · have e28 : f 28 = (.bool true) := hd 28 (by kernel_rfl)
          refine wanted_on (by simp [Region.wanted, yielded, putAll, Act.put, List.setIfInBounds_toArray, List.set_cons_zero, List.set_cons_succ, e28]) ?_
          simp only [putAll, Act.put, List.setIfInBounds_toArray, List.set_cons_zero, List.set_cons_succ, e28] at hK ⊢
          go_simp
          exact hK _ _ _ rfl hG (Below.refl _ _) rfl
        · have e28 : f 28 = (.bool true) := hd 28 (by kernel_rfl)
          have e29 : f 29 = (.pointer (some ⟨u2.heap.size, 3, none⟩)) := hd 29 (by kernel_rfl)
          obtain ⟨⟨c0, c1, c2, c3⟩, _⟩ := box4 ((HB.out _ (HG3.out.trans (hG.mono HG3.out.size))).2.2.1)
          refine wanted_on (by simp [Region.wanted, yielded, putAll, Act.put, List.setIfInBounds_toArray, List.set_cons_zero, List.set_cons_succ, e28, e29]) ?_
          simp only [putAll, Act.put, List.setIfInBounds_toArray, List.set_cons_zero, List.set_cons_succ, e28, e29] at hK ⊢
          go_simp
          exact hK _ _ _ rfl hG (Below.refl _ _) rfl
        · have e28 : f 28 = (.bool true) := hd 28 (by kernel_rfl)
          have e30 : f 30 = (.slice po y.l.length pc) := hd 30 (by kernel_rfl)
          refine wanted_on (by simp [Region.wanted, yielded, putAll, Act.put, List.setIfInBounds_toArray, List.set_cons_zero, List.set_cons_succ, e28, e30]) ?_
          simp only [putAll, Act.put, List.setIfInBounds_toArray, List.set_cons_zero, List.set_cons_succ, e28, e30] at hK ⊢
          go_simp
          exact hK _ _ _ rfl hG (Below.refl _ _) rfl
        · have e28 : f 28 = (.bool true) := hd 28 (by kernel_rfl)
          refine wanted_on (by simp [Region.wanted, yielded, putAll, Act.put, List.setIfInBounds_toArray, List.set_cons_zero, List.set_cons_succ, e28]) ?_
          simp only [putAll, Act.put, List.setIfInBounds_toArray, List.set_cons_zero, List.set_cons_succ, e28] at hK ⊢
          go_simp
          exact hK _ _ _ rfl hG (Below.refl _ _) rfl
        · have e28 : f 28 = (.bool true) := hd 28 (by kernel_rfl)
          have e32 : f 32 = (.pointer (some ⟨u4.heap.size, 3, none⟩)) := hd 32 (by kernel_rfl)
          obtain ⟨⟨c0, c1, c2, c3⟩, _⟩ := box4 ((HB.out _ (HG3.out.trans (hG.mono HG3.out.size))).2.2.2.1)
          refine wanted_on (by simp [Region.wanted, yielded, putAll, Act.put, List.setIfInBounds_toArray, List.set_cons_zero, List.set_cons_succ, e28, e32]) ?_
          simp only [putAll, Act.put, List.setIfInBounds_toArray, List.set_cons_zero, List.set_cons_succ, e28, e32] at hK ⊢
          go_simp
          exact hK _ _ _ rfl hG (Below.refl _ _) rfl
        · have e28 : f 28 = (.bool true) := hd 28 (by kernel_rfl)
          have e33 : f 33 = (.slice qo y.l.length qc) := hd 33 (by kernel_rfl)
          refine wanted_on (by simp [Region.wanted, yielded, putAll, Act.put, List.setIfInBounds_toArray, List.set_cons_zero, List.set_cons_succ, e28, e33]) ?_
          simp only [putAll, Act.put, List.setIfInBounds_toArray, List.set_cons_zero, List.set_cons_succ, e28, e33] at hK ⊢
          go_simp
          exact hK _ _ _ rfl hG (Below.refl _ _) rfl
        · have e28 : f 28 = (.bool true) := hd 28 (by kernel_rfl)
          have e31 : f 31 = (.int .i64 y.l.length) := hd 31 (by kernel_rfl)
          have e34 : f 34 = (.int .i64 y.l.length) := hd 34 (by kernel_rfl)
          refine wanted_on (by simp [Region.wanted, yielded, putAll, Act.put, List.setIfInBounds_toArray, List.set_cons_zero, List.set_cons_succ, e28, e31, e34]) ?_
          simp only [putAll, Act.put, List.setIfInBounds_toArray, List.set_cons_zero, List.set_cons_succ, e28, e31, e34] at hK ⊢
          go_simp
          exact hK _ _ _ rfl hG (Below.refl _ _) (by simp [isV, atR])
        · have e28 : f 28 = (.bool true) := hd 28 (by kernel_rfl)
          have e35 : f 35 = (.bool true) := hd 35 (by kernel_rfl)
          refine wanted_on rfl ?_
          simp only [putAll, Act.put, List.setIfInBounds_toArray, List.set_cons_zero, List.set_cons_succ, e28, e35] at hK ⊢
          go_simp
          exact hK _ _ _ rfl hG (Below.refl _ _) rfl
        · have e36 : f 36 = (.bool true) := hd 36 (by kernel_rfl)
          refine wanted_on rfl ?_
          simp only [putAll, Act.put, List.setIfInBounds_toArray, List.set_cons_zero, List.set_cons_succ, e36] at hK ⊢
          go_simp
          exact hK _ _ _ rfl hG (Below.refl _ _) rfl
        · have e37 : f 37 = (.bool true) := hd 37 (by kernel_rfl)
          obtain ⟨⟨c0, c1, c2, c3⟩, _⟩ := box4 ((HB.out _ (HG3.out.trans (hG.mono HG3.out.size))).1)
          refine wanted_on (by simp [Region.wanted, yielded, putAll, Act.put, List.setIfInBounds_toArray, List.set_cons_zero, List.set_cons_succ, e37]) ?_
          simp only [putAll, Act.put, List.setIfInBounds_toArray, List.set_cons_zero, List.set_cons_succ, e37] at hK ⊢
          go_simp
          exact hK _ _ _ rfl hG (Below.refl _ _) rfl
        · have e37 : f 37 = (.bool true) := hd 37 (by kernel_rfl)
          have e38 : f 38 = (vval x0 L0) := hd 38 (by kernel_rfl)
          refine wanted_on (by simp [Region.wanted, yielded, putAll, Act.put, List.setIfInBounds_toArray, List.set_cons_zero, List.set_cons_succ, e37, e38]) ?_
          simp only [putAll, Act.put, List.setIfInBounds_toArray, List.set_cons_zero, List.set_cons_succ, e37, e38] at hK ⊢
          go_simp
          refine (HO0.out _ _ (m0.below (HB.out _ (HG3.out.trans (hG.mono HG3.out.size))).2.2.2.2.1 (Nat.le_refl _))).mono ?_
          rintro e u1 ⟨V, rfl, h1, hb⟩
          exact hK _ _ _ rfl (hG.trans (hb.mono hG.size)) hb ⟨_, rfl, h1⟩
        · have e37 : f 37 = (.bool true) := hd 37 (by kernel_rfl)
          obtain ⟨V39, e39, q39⟩ := hd 39 (by kernel_rfl)
          refine wanted_on (by simp [Region.wanted, yielded, putAll, Act.put, List.setIfInBounds_toArray, List.set_cons_zero, List.set_cons_succ, e37, e39]) ?_
          simp only [putAll, Act.put, List.setIfInBounds_toArray, List.set_cons_zero, List.set_cons_succ, e37, e39] at hK ⊢
          go_simp
          refine (HM0.out V39 u).mono ?_
          rintro e u1 ⟨rfl, hb⟩
          exact hK _ _ _ rfl (hG.trans (hb.mono hG.size)) hb rfl
        · have e37 : f 37 = (.bool true) := hd 37 (by kernel_rfl)
          obtain ⟨⟨c0, c1, c2, c3⟩, _⟩ := box4 ((HB.out _ (HG3.out.trans (hG.mono HG3.out.size))).2.2.1)
          refine wanted_on (by simp [Region.wanted, yielded, putAll, Act.put, List.setIfInBounds_toArray, List.set_cons_zero, List.set_cons_succ, e37]) ?_
          simp only [putAll, Act.put, List.setIfInBounds_toArray, List.set_cons_zero, List.set_cons_succ, e37] at hK ⊢
          go_simp
          exact hK _ _ _ rfl hG (Below.refl _ _) rfl
        · have e37 : f 37 = (.bool true) := hd 37 (by kernel_rfl)
          have e41 : f 41 = (vval y (.slice po y.l.length pc)) := hd 41 (by kernel_rfl)
          refine wanted_on (by simp [Region.wanted, yielded, putAll, Act.put, List.setIfInBounds_toArray, List.set_cons_zero, List.set_cons_succ, e37, e41]) ?_
          simp only [putAll, Act.put, List.setIfInBounds_toArray, List.set_cons_zero, List.set_cons_succ, e37, e41] at hK ⊢
          go_simp
          refine (HOY.out _ _ (HB.out _ (HG3.out.trans (hG.mono HG3.out.size))).2.2.2.2.2.1).mono ?_
          rintro e u1 ⟨V, rfl, h1, hb⟩
          exact hK _ _ _ rfl (hG.trans (hb.mono hG.size)) hb ⟨_, rfl, h1⟩
        · have e37 : f 37 = (.bool true) := hd 37 (by kernel_rfl)
          obtain ⟨V42, e42, q42⟩ := hd 42 (by kernel_rfl)
          refine wanted_on (by simp [Region.wanted, yielded, putAll, Act.put, List.setIfInBounds_toArray, List.set_cons_zero, List.set_cons_succ, e37, e42]) ?_
          simp only [putAll, Act.put, List.setIfInBounds_toArray, List.set_cons_zero, List.set_cons_succ, e37, e42] at hK ⊢
          go_simp
          refine (HMY.out V42 u).mono ?_
          rintro e u1 ⟨rfl, hb⟩
          exact hK _ _ _ rfl (hG.trans (hb.mono hG.size)) hb rfl
        · have e37 : f 37 = (.bool true) := hd 37 (by kernel_rfl)
          have e40 : f 40 = (.bool mm) := hd 40 (by kernel_rfl)
          have e43 : f 43 = (.bool mm) := hd 43 (by kernel_rfl)
          refine wanted_on (by simp [Region.wanted, yielded, putAll, Act.put, List.setIfInBounds_toArray, List.set_cons_zero, List.set_cons_succ, e37, e40, e43]) ?_
          simp only [putAll, Act.put, List.setIfInBounds_toArray, List.set_cons_zero, List.set_cons_succ, e37, e40, e43] at hK ⊢
          go_simp
          exact hK _ _ _ rfl hG (Below.refl _ _) (by simp [isV, atR])
        · have e37 : f 37 = (.bool true) := hd 37 (by kernel_rfl)
          have e44 : f 44 = (.bool true) := hd 44 (by kernel_rfl)
          refine wanted_on rfl ?_
          simp only [putAll, Act.put, List.setIfInBounds_toArray, List.set_cons_zero, List.set_cons_succ, e37, e44] at hK ⊢
          go_simp
          exact hK _ _ _ rfl hG (Below.refl _ _) rfl
        · have e45 : f 45 = (.bool true) := hd 45 (by kernel_rfl)
          refine wanted_on rfl ?_
          simp only [putAll, Act.put, List.setIfInBounds_toArray, List.set_cons_zero, List.set_cons_succ, e45] at hK ⊢
          go_simp
          exact hK _ _ _ rfl hG (Below.refl _ _) rfl
      · intro f5 u6 hG hf
        have HBB : Hid _ := (HB.out _ (HG3.out.trans (hG.mono HG3.out.size))).2.2.2.2.1
        have e46 : f5 46 = .bool true := hf 46 (by decide)
        simp only [putAll, Act.put, List.setIfInBounds_toArray, List.set_cons_zero, List.set_cons_succ, e46]
        clear hf e46 hG
        go_wp2_with fail
        go_ret
        exact ⟨rfl, HBB.out⟩
  | true =>
    have HW1b : Hid _ := HW1.out rfl
    refine wp_grow [isV (.bool true), isV (.bool false), isV (.bool false), isV (vval x0 L0), isVal x0, isV (vval x1 L1), isVal x1, isV (.bool true), isV (.bool true), isV (vval x0 L0), isVal x0, isV (.string T), isV (vval x1 L1), isVal x1, isV (.string T), isV (.bool false), isV (.bool false), isV (.bool false)]
      ⟨stab_is _, stab_is _, stab_is _, stab_is _, stab_val _, stab_is _, stab_val _, stab_is _, stab_is _, stab_is _, stab_val _, stab_is _, stab_is _, stab_val _, stab_is _, stab_is _, stab_is _, stab_is _, trivial⟩ (by kernel_rfl) (by kernel_rfl) (by kernel_rfl) ?_ ?_
    · refine stepsOK_cons (fun f u hG hd K hK => ?_) (stepsOK_cons (fun f u hG hd K hK => ?_) (stepsOK_cons (fun f u hG hd K hK => ?_) (stepsOK_cons (fun f u hG hd K hK => ?_) (stepsOK_cons (fun f u hG hd K hK => ?_) (stepsOK_cons (fun f u hG hd K hK => ?_) (stepsOK_cons (fun f u hG hd K hK => ?_) (stepsOK_cons (fun f u hG hd K hK => ?_) (stepsOK_cons (fun f u hG hd K hK => ?_) (stepsOK_cons (fun f u hG hd K hK => ?_) (stepsOK_cons (fun f u hG hd K hK => ?_) (stepsOK_cons (fun f u hG hd K hK => ?_) (stepsOK_cons (fun f u hG hd K hK => ?_) (stepsOK_cons (fun f u hG hd K hK => ?_) (stepsOK_cons (fun f u hG hd K hK => ?_) (stepsOK_cons (fun f u hG hd K hK => ?_) (stepsOK_cons (fun f u hG hd K hK => ?_) (stepsOK_cons (fun f u hG hd K hK => ?_) stepsOK_nil)))))))))))))))))
      · refine wanted_on rfl ?_
        simp only [putAll, Act.put, List.setIfInBounds_toArray, List.set_cons_zero, List.set_cons_succ] at hK ⊢
        go_simp
        refine (HSH.out u (HB.out _ hG).2.2.2.2.1).mono ?_
        rintro e u1 ⟨rfl, hb⟩
        exact hK _ _ _ rfl (hG.trans (hb.mono hG.size)) hb rfl
      · have e0 : f 0 = (.bool true) := hd 0 (by kernel_rfl)
        refine wanted_on rfl ?_
        simp only [putAll, Act.put, List.setIfInBounds_toArray, List.set_cons_zero, List.set_cons_succ, e0] at hK ⊢
        go_simp
        exact hK _ _ _ rfl hG (Below.refl _ _) rfl
      · have e1 : f 1 = (.bool false) := hd 1 (by kernel_rfl)
        refine wanted_on rfl ?_
        simp only [putAll, Act.put, List.setIfInBounds_toArray, List.set_cons_zero, List.set_cons_succ, e1] at hK ⊢
        go_simp
        exact hK _ _ _ rfl hG (Below.refl _ _) rfl
      · have e2 : f 2 = (.bool false) := hd 2 (by kernel_rfl)
        obtain ⟨⟨c0, c1, c2, c3⟩, _⟩ := box4 ((HB.out _ hG).1)
        refine wanted_on (by simp [Region.wanted, yielded, putAll, Act.put, List.setIfInBounds_toArray, List.set_cons_zero, List.set_cons_succ, e2]) ?_
        simp only [putAll, Act.put, List.setIfInBounds_toArray, List.set_cons_zero, List.set_cons_succ, e2] at hK ⊢
        go_simp
        exact hK _ _ _ rfl hG (Below.refl _ _) rfl
      · have e2 : f 2 = (.bool false) := hd 2 (by kernel_rfl)
        have e3 : f 3 = (vval x0 L0) := hd 3 (by kernel_rfl)
        refine wanted_on (by simp [Region.wanted, yielded, putAll, Act.put, List.setIfInBounds_toArray, List.set_cons_zero, List.set_cons_succ, e2, e3]) ?_
        simp only [putAll, Act.put, List.setIfInBounds_toArray, List.set_cons_zero, List.set_cons_succ, e2, e3] at hK ⊢
        go_simp
        refine (HO0.out _ _ (m0.below (HB.out _ hG).2.2.2.2.1 (Nat.le_refl _))).mono ?_
        rintro e u1 ⟨V, rfl, h1, hb⟩
        exact hK _ _ _ rfl (hG.trans (hb.mono hG.size)) hb ⟨_, rfl, h1⟩
      · have e2 : f 2 = (.bool false) := hd 2 (by kernel_rfl)
        obtain ⟨⟨c0, c1, c2, c3⟩, _⟩ := box4 ((HB.out _ hG).2.1)
        refine wanted_on (by simp [Region.wanted, yielded, putAll, Act.put, List.setIfInBounds_toArray, List.set_cons_zero, List.set_cons_succ, e2]) ?_
        simp only [putAll, Act.put, List.setIfInBounds_toArray, List.set_cons_zero, List.set_cons_succ, e2] at hK ⊢
        go_simp
        exact hK _ _ _ rfl hG (Below.refl _ _) rfl
      · have e2 : f 2 = (.bool false) := hd 2 (by kernel_rfl)
        have e5 : f 5 = (vval x1 L1) := hd 5 (by kernel_rfl)
        refine wanted_on (by simp [Region.wanted, yielded, putAll, Act.put, List.setIfInBounds_toArray, List.set_cons_zero, List.set_cons_succ, e2, e5]) ?_
        simp only [putAll, Act.put, List.setIfInBounds_toArray, List.set_cons_zero, List.set_cons_succ, e2, e5] at hK ⊢
        go_simp
        refine (HO1.out _ _ (m1.below (HB.out _ hG).2.2.2.2.1 (Nat.le_refl _))).mono ?_
        rintro e u1 ⟨V, rfl, h1, hb⟩
        exact hK _ _ _ rfl (hG.trans (hb.mono hG.size)) hb ⟨_, rfl, h1⟩
      · have e2 : f 2 = (.bool false) := hd 2 (by kernel_rfl)
        obtain ⟨V4, e4, q4⟩ := hd 4 (by kernel_rfl)
        obtain ⟨V6, e6, q6⟩ := hd 6 (by kernel_rfl)
        refine wanted_on (by simp [Region.wanted, yielded, putAll, Act.put, List.setIfInBounds_toArray, List.set_cons_zero, List.set_cons_succ, e2, e4, e6]) ?_
        simp only [putAll, Act.put, List.setIfInBounds_toArray, List.set_cons_zero, List.set_cons_succ, e2, e4, e6] at hK ⊢
        go_simp
        refine (HS01.out V4 V6 u q4 q6).mono ?_
        rintro e u1 ⟨rfl, hb⟩
        exact hK _ _ _ rfl (hG.trans (hb.mono hG.size)) hb rfl
      · have e2 : f 2 = (.bool false) := hd 2 (by kernel_rfl)
        have e7 : f 7 = (.bool true) := hd 7 (by kernel_rfl)
        refine wanted_on (by simp [Region.wanted, yielded, putAll, Act.put, List.setIfInBounds_toArray, List.set_cons_zero, List.set_cons_succ, e2, e7]) ?_
        simp only [putAll, Act.put, List.setIfInBounds_toArray, List.set_cons_zero, List.set_cons_succ, e2, e7] at hK ⊢
        go_simp
        exact hK _ _ _ rfl hG (Below.refl _ _) rfl
      · have e8 : f 8 = (.bool true) := hd 8 (by kernel_rfl)
        obtain ⟨⟨c0, c1, c2, c3⟩, _⟩ := box4 ((HB.out _ hG).1)
        refine wanted_on (by simp [Region.wanted, yielded, putAll, Act.put, List.setIfInBounds_toArray, List.set_cons_zero, List.set_cons_succ, e8]) ?_
        simp only [putAll, Act.put, List.setIfInBounds_toArray, List.set_cons_zero, List.set_cons_succ, e8] at hK ⊢
        go_simp
        exact hK _ _ _ rfl hG (Below.refl _ _) rfl
      · have e8 : f 8 = (.bool true) := hd 8 (by kernel_rfl)
        have e9 : f 9 = (vval x0 L0) := hd 9 (by kernel_rfl)
        refine wanted_on (by simp [Region.wanted, yielded, putAll, Act.put, List.setIfInBounds_toArray, List.set_cons_zero, List.set_cons_succ, e8, e9]) ?_
        simp only [putAll, Act.put, List.setIfInBounds_toArray, List.set_cons_zero, List.set_cons_succ, e8, e9] at hK ⊢
        go_simp
        refine (HO0.out _ _ (m0.below (HB.out _ hG).2.2.2.2.1 (Nat.le_refl _))).mono ?_
        rintro e u1 ⟨V, rfl, h1, hb⟩
        exact hK _ _ _ rfl (hG.trans (hb.mono hG.size)) hb ⟨_, rfl, h1⟩
      · have e8 : f 8 = (.bool true) := hd 8 (by kernel_rfl)
        obtain ⟨V10, e10, q10⟩ := hd 10 (by kernel_rfl)
        refine wanted_on (by simp [Region.wanted, yielded, putAll, Act.put, List.setIfInBounds_toArray, List.set_cons_zero, List.set_cons_succ, e8, e10]) ?_
        simp only [putAll, Act.put, List.setIfInBounds_toArray, List.set_cons_zero, List.set_cons_succ, e8, e10] at hK ⊢
        go_simp
        refine (HW0.out V10 u q10 (HB.out _ hG).2.2.2.2.1).mono ?_
        rintro e u1 ⟨rfl, hb⟩
        exact hK _ _ _ rfl (hG.trans (hb.mono hG.size)) hb rfl
      · have e8 : f 8 = (.bool true) := hd 8 (by kernel_rfl)
        obtain ⟨⟨c0, c1, c2, c3⟩, _⟩ := box4 ((HB.out _ hG).2.1)
        refine wanted_on (by simp [Region.wanted, yielded, putAll, Act.put, List.setIfInBounds_toArray, List.set_cons_zero, List.set_cons_succ, e8]) ?_
        simp only [putAll, Act.put, List.setIfInBounds_toArray, List.set_cons_zero, List.set_cons_succ, e8] at hK ⊢
        go_simp
        exact hK _ _ _ rfl hG (Below.refl _ _) rfl
      · have e8 : f 8 = (.bool true) := hd 8 (by kernel_rfl)
        have e12 : f 12 = (vval x1 L1) := hd 12 (by kernel_rfl)
        refine wanted_on (by simp [Region.wanted, yielded, putAll, Act.put, List.setIfInBounds_toArray, List.set_cons_zero, List.set_cons_succ, e8, e12]) ?_
        simp only [putAll, Act.put, List.setIfInBounds_toArray, List.set_cons_zero, List.set_cons_succ, e8, e12] at hK ⊢
        go_simp
        refine (HO1.out _ _ (m1.below (HB.out _ hG).2.2.2.2.1 (Nat.le_refl _))).mono ?_
        rintro e u1 ⟨V, rfl, h1, hb⟩
        exact hK _ _ _ rfl (hG.trans (hb.mono hG.size)) hb ⟨_, rfl, h1⟩
      · have e8 : f 8 = (.bool true) := hd 8 (by kernel_rfl)
        obtain ⟨V13, e13, q13⟩ := hd 13 (by kernel_rfl)
        refine wanted_on (by simp [Region.wanted, yielded, putAll, Act.put, List.setIfInBounds_toArray, List.set_cons_zero, List.set_cons_succ, e8, e13]) ?_
        simp only [putAll, Act.put, List.setIfInBounds_toArray, List.set_cons_zero, List.set_cons_succ, e8, e13] at hK ⊢
        go_simp
        refine (HW1b.out V13 u q13 (HB.out _ hG).2.2.2.2.1).mono ?_
        rintro e u1 ⟨rfl, hb⟩
        exact hK _ _ _ rfl (hG.trans (hb.mono hG.size)) hb rfl
      · have e8 : f 8 = (.bool true) := hd 8 (by kernel_rfl)
        have e11 : f 11 = (.string T) := hd 11 (by kernel_rfl)
        have e14 : f 14 = (.string T) := hd 14 (by kernel_rfl)
        refine wanted_on (by simp [Region.wanted, yielded, putAll, Act.put, List.setIfInBounds_toArray, List.set_cons_zero, List.set_cons_succ, e8, e11, e14]) ?_
        simp only [putAll, Act.put, List.setIfInBounds_toArray, List.set_cons_zero, List.set_cons_succ, e8, e11, e14] at hK ⊢
        go_simp
        exact hK _ _ _ rfl hG (Below.refl _ _) (by simp [isV, atR])
      · have e2 : f 2 = (.bool false) := hd 2 (by kernel_rfl)
        have e8 : f 8 = (.bool true) := hd 8 (by kernel_rfl)
        have e15 : f 15 = (.bool false) := hd 15 (by kernel_rfl)
        refine wanted_on (by simp [Region.wanted, yielded, putAll, Act.put, List.setIfInBounds_toArray, List.set_cons_zero, List.set_cons_succ, e2, e8, e15]) ?_
        simp only [putAll, Act.put, List.setIfInBounds_toArray, List.set_cons_zero, List.set_cons_succ, e2, e8, e15] at hK ⊢
        go_simp
        exact hK _ _ _ rfl hG (Below.refl _ _) rfl
      · have e2 : f 2 = (.bool false) := hd 2 (by kernel_rfl)
        have e16 : f 16 = (.bool false) := hd 16 (by kernel_rfl)
        refine wanted_on rfl ?_
        simp only [putAll, Act.put, List.setIfInBounds_toArray, List.set_cons_zero, List.set_cons_succ, e2, e16] at hK ⊢
        go_simp
        exact hK _ _ _ rfl hG (Below.refl _ _) rfl
    · intro f3 u5 hG hf
      have HG3 : Hid (Below (u4.alloc (.cells #[.int .i64 y.kind, .int .i64 y.n, .string y.s, .slice qo y.l.length qc] 24)).heap.size (u4.alloc (.cells #[.int .i64 y.kind, .int .i64 y.n, .string y.s, .slice qo y.l.length qc] 24)) u5) := hG
      have e17 : f3 17 = .bool false := hf 17 (by decide)
      simp only [putAll, Act.put, List.setIfInBounds_toArray, List.set_cons_zero, List.set_cons_succ, e17]
      clear hf e17 hG
      go_wp2_with fail
      refine wp_grow [isV (vval y (.slice po y.l.length pc)), isVal y, isV (.string T), isV (vval x0 L0), isVal x0, isV (.string T), isV (.bool true), isV (.bool true), isV (vval y (.slice po y.l.length pc)), isVal y, isV (vval y (.slice qo y.l.length qc)), isVal y, isV (.bool true), isV (.bool true), isV (.bool true), isV (.pointer (some ⟨u2.heap.size, 1, none⟩)), isV (.int .i64 y.n), isV (.pointer (some ⟨u4.heap.size, 1, none⟩)), isV (.int .i64 y.n), isV (.bool true), isV (.bool true), isV (.bool true), isV (.pointer (some ⟨u2.heap.size, 2, none⟩)), isV (.string y.s), isV (.pointer (some ⟨u4.heap.size, 2, none⟩)), isV (.string y.s), isV (.bool true), isV (.bool true), isV (.bool true), isV (.pointer (some ⟨u2.heap.size, 3, none⟩)), isV (.slice po y.l.length pc), isV (.int .i64 y.l.length), isV (.pointer (some ⟨u4.heap.size, 3, none⟩)), isV (.slice qo y.l.length qc), isV (.int .i64 y.l.length), isV (.bool true), isV (.bool true), isV (.bool true), isV (vval x0 L0), isVal x0, isV (.bool mm), isV (vval y (.slice po y.l.length pc)), isVal y, isV (.bool mm), isV (.bool true), isV (.bool true), isV (.bool true)]
        ⟨stab_is _, stab_val _, stab_is _, stab_is _, stab_val _, stab_is _, stab_is _, stab_is _, stab_is _, stab_val _, stab_is _, stab_val _, stab_is _, stab_is _, stab_is _, stab_is _, stab_is _, stab_is _, stab_is _, stab_is _, stab_is _, stab_is _, stab_is _, stab_is _, stab_is _, stab_is _, stab_is _, stab_is _, stab_is _, stab_is _, stab_is _, stab_is _, stab_is _, stab_is _, stab_is _, stab_is _, stab_is _, stab_is _, stab_is _, stab_val _, stab_is _, stab_is _, stab_val _, stab_is _, stab_is _, stab_is _, stab_is _, trivial⟩ (by kernel_rfl) (by kernel_rfl) (by kernel_rfl) ?_ ?_
      · refine stepsOK_cons (fun f u hG hd K hK => ?_) (stepsOK_cons (fun f u hG hd K hK => ?_) (stepsOK_cons (fun f u hG hd K hK => ?_) (stepsOK_cons (fun f u hG hd K hK => ?_) (stepsOK_cons (fun f u hG hd K hK => ?_) (stepsOK_cons (fun f u hG hd K hK => ?_) (stepsOK_cons (fun f u hG hd K hK => ?_) (stepsOK_cons (fun f u hG hd K hK => ?_) (stepsOK_cons (fun f u hG hd K hK => ?_) (stepsOK_cons (fun f u hG hd K hK => ?_) (stepsOK_cons (fun f u hG hd K hK => ?_) (stepsOK_cons (fun f u hG hd K hK => ?_) (stepsOK_cons (fun f u hG hd K hK => ?_) (stepsOK_cons (fun f u hG hd K hK => ?_) (stepsOK_cons (fun f u hG hd K hK => ?_) (stepsOK_cons (fun f u hG hd K hK => ?_) (stepsOK_cons (fun f u hG hd K hK => ?_) (stepsOK_cons (fun f u hG hd K hK => ?_) (stepsOK_cons (fun f u hG hd K hK => ?_) (stepsOK_cons (fun f u hG hd K hK => ?_) (stepsOK_cons (fun f u hG hd K hK => ?_) (stepsOK_cons (fun f u hG hd K hK => ?_) (stepsOK_cons (fun f u hG hd K hK => ?_) (stepsOK_cons (fun f u hG hd K hK => ?_) (stepsOK_cons (fun f u hG hd K hK => ?_) (stepsOK_cons (fun f u hG hd K hK => ?_) (stepsOK_cons (fun f u hG hd K hK => ?_) (stepsOK_cons (fun f u hG hd K hK => ?_) (stepsOK_cons (fun f u hG hd K hK => ?_) (stepsOK_cons (fun f u hG hd K hK => ?_) (stepsOK_cons (fun f u hG hd K hK => ?_) (stepsOK_cons (fun f u hG hd K hK => ?_) (stepsOK_cons (fun f u hG hd K hK => ?_) (stepsOK_cons (fun f u hG hd K hK => ?_) (stepsOK_cons (fun f u hG hd K hK => ?_) (stepsOK_cons (fun f u hG hd K hK => ?_) (stepsOK_cons (fun f u hG hd K hK => ?_) (stepsOK_cons (fun f u hG hd K hK => ?_) (stepsOK_cons (fun f u hG hd K hK => ?_) (stepsOK_cons (fun f u hG hd K hK => ?_) (stepsOK_cons (fun f u hG hd K hK => ?_) (stepsOK_cons (fun f u hG hd K hK => ?_) (stepsOK_cons (fun f u hG hd K hK => ?_) (stepsOK_cons (fun f u hG hd K hK => ?_) (stepsOK_cons (fun f u hG hd K hK => ?_) (stepsOK_cons (fun f u hG hd K hK => ?_) (stepsOK_cons (fun f u hG hd K hK => ?_) stepsOK_nil))))))))))))))))))))))))))))))))))))))))))))))
        · obtain ⟨⟨c0, c1, c2, c3⟩, _⟩ := box4 ((HB.out _ (HG3.out.trans (hG.mono HG3.out.size))).2.2.1)
          refine wanted_on rfl ?_
          simp only [putAll, Act.put, List.setIfInBounds_toArray, List.set_cons_zero, List.set_cons_succ] at hK ⊢
          go_simp
          exact hK _ _ _ rfl hG (Below.refl _ _) rfl
        · have e0 : f 0 = (vval y (.slice po y.l.length pc)) := hd 0 (by kernel_rfl)
          refine wanted_on rfl ?_
          simp only [putAll, Act.put, List.setIfInBounds_toArray, List.set_cons_zero, List.set_cons_succ, e0] at hK ⊢
          go_simp
          refine (HOY.out _ _ (HB.out _ (HG3.out.trans (hG.mono HG3.out.size))).2.2.2.2.2.1).mono ?_
          rintro e u1 ⟨V, rfl, h1, hb⟩
          exact hK _ _ _ rfl (hG.trans (hb.mono hG.size)) hb ⟨_, rfl, h1⟩
        · obtain ⟨V1, e1, q1⟩ := hd 1 (by kernel_rfl)
          refine wanted_on rfl ?_
          simp only [putAll, Act.put, List.setIfInBounds_toArray, List.set_cons_zero, List.set_cons_succ, e1] at hK ⊢
          go_simp
          refine (HWY.out V1 u q1 (HB.out _ (HG3.out.trans (hG.mono HG3.out.size))).2.2.2.2.1).mono ?_
          rintro e u1 ⟨rfl, hb⟩
          exact hK _ _ _ rfl (hG.trans (hb.mono hG.size)) hb rfl
        · obtain ⟨⟨c0, c1, c2, c3⟩, _⟩ := box4 ((HB.out _ (HG3.out.trans (hG.mono HG3.out.size))).1)
          refine wanted_on rfl ?_
          simp only [putAll, Act.put, List.setIfInBounds_toArray, List.set_cons_zero, List.set_cons_succ] at hK ⊢
          go_simp
          exact hK _ _ _ rfl hG (Below.refl _ _) rfl
        · have e3 : f 3 = (vval x0 L0) := hd 3 (by kernel_rfl)
          refine wanted_on rfl ?_
          simp only [putAll, Act.put, List.setIfInBounds_toArray, List.set_cons_zero, List.set_cons_succ, e3] at hK ⊢
          go_simp
          refine (HO0.out _ _ (m0.below (HB.out _ (HG3.out.trans (hG.mono HG3.out.size))).2.2.2.2.1 (Nat.le_refl _))).mono ?_
          rintro e u1 ⟨V, rfl, h1, hb⟩
          exact hK _ _ _ rfl (hG.trans (hb.mono hG.size)) hb ⟨_, rfl, h1⟩
        · obtain ⟨V4, e4, q4⟩ := hd 4 (by kernel_rfl)
          refine wanted_on rfl ?_
          simp only [putAll, Act.put, List.setIfInBounds_toArray, List.set_cons_zero, List.set_cons_succ, e4] at hK ⊢
          go_simp
          refine (HW0.out V4 u q4 (HB.out _ (HG3.out.trans (hG.mono HG3.out.size))).2.2.2.2.1).mono ?_
          rintro e u1 ⟨rfl, hb⟩
          exact hK _ _ _ rfl (hG.trans (hb.mono hG.size)) hb rfl
        · have e2 : f 2 = (.string T) := hd 2 (by kernel_rfl)
          have e5 : f 5 = (.string T) := hd 5 (by kernel_rfl)
          refine wanted_on rfl ?_
          simp only [putAll, Act.put, List.setIfInBounds_toArray, List.set_cons_zero, List.set_cons_succ, e2, e5] at hK ⊢
          go_simp
          exact hK _ _ _ rfl hG (Below.refl _ _) (by simp [isV, atR])
        · have e6 : f 6 = (.bool true) := hd 6 (by kernel_rfl)
          refine wanted_on rfl ?_
          simp only [putAll, Act.put, List.setIfInBounds_toArray, List.set_cons_zero, List.set_cons_succ, e6] at hK ⊢
          go_simp
          exact hK _ _ _ rfl hG (Below.refl _ _) rfl
        · have e7 : f 7 = (.bool true) := hd 7 (by kernel_rfl)
          obtain ⟨⟨c0, c1, c2, c3⟩, _⟩ := box4 ((HB.out _ (HG3.out.trans (hG.mono HG3.out.size))).2.2.1)
          refine wanted_on (by simp [Region.wanted, yielded, putAll, Act.put, List.setIfInBounds_toArray, List.set_cons_zero, List.set_cons_succ, e7]) ?_
          simp only [putAll, Act.put, List.setIfInBounds_toArray, List.set_cons_zero, List.set_cons_succ, e7] at hK ⊢
          go_simp
          exact hK _ _ _ rfl hG (Below.refl _ _) rfl
        · have e7 : f 7 = (.bool true) := hd 7 (by kernel_rfl)
          have e8 : f 8 = (vval y (.slice po y.l.length pc)) := hd 8 (by kernel_rfl)
          refine wanted_on (by simp [Region.wanted, yielded, putAll, Act.put, List.setIfInBounds_toArray, List.set_cons_zero, List.set_cons_succ, e7, e8]) ?_
          simp only [putAll, Act.put, List.setIfInBounds_toArray, List.set_cons_zero, List.set_cons_succ, e7, e8] at hK ⊢
          go_simp
          refine (HOY.out _ _ (HB.out _ (HG3.out.trans (hG.mono HG3.out.size))).2.2.2.2.2.1).mono ?_
          rintro e u1 ⟨V, rfl, h1, hb⟩
          exact hK _ _ _ rfl (hG.trans (hb.mono hG.size)) hb ⟨_, rfl, h1⟩
        · have e7 : f 7 = (.bool true) := hd 7 (by kernel_rfl)
          obtain ⟨⟨c0, c1, c2, c3⟩, _⟩ := box4 ((HB.out _ (HG3.out.trans (hG.mono HG3.out.size))).2.2.2.1)
          refine wanted_on (by simp [Region.wanted, yielded, putAll, Act.put, List.setIfInBounds_toArray, List.set_cons_zero, List.set_cons_succ, e7]) ?_
          simp only [putAll, Act.put, List.setIfInBounds_toArray, List.set_cons_zero, List.set_cons_succ, e7] at hK ⊢
          go_simp
          exact hK _ _ _ rfl hG (Below.refl _ _) rfl
        · have e7 : f 7 = (.bool true) := hd 7 (by kernel_rfl)
          have e10 : f 10 = (vval y (.slice qo y.l.length qc)) := hd 10 (by kernel_rfl)
          refine wanted_on (by simp [Region.wanted, yielded, putAll, Act.put, List.setIfInBounds_toArray, List.set_cons_zero, List.set_cons_succ, e7, e10]) ?_
          simp only [putAll, Act.put, List.setIfInBounds_toArray, List.set_cons_zero, List.set_cons_succ, e7, e10] at hK ⊢
          go_simp
          refine (HOY.out _ _ (HB.out _ (HG3.out.trans (hG.mono HG3.out.size))).2.2.2.2.2.2).mono ?_
          rintro e u1 ⟨V, rfl, h1, hb⟩
          exact hK _ _ _ rfl (hG.trans (hb.mono hG.size)) hb ⟨_, rfl, h1⟩
        · have e7 : f 7 = (.bool true) := hd 7 (by kernel_rfl)
          obtain ⟨V9, e9, q9⟩ := hd 9 (by kernel_rfl)
          obtain ⟨V11, e11, q11⟩ := hd 11 (by kernel_rfl)
          refine wanted_on (by simp [Region.wanted, yielded, putAll, Act.put, List.setIfInBounds_toArray, List.set_cons_zero, List.set_cons_succ, e7, e9, e11]) ?_
          simp only [putAll, Act.put, List.setIfInBounds_toArray, List.set_cons_zero, List.set_cons_succ, e7, e9, e11] at hK ⊢
          go_simp
          refine (HSY.out V9 V11 u q9 q11).mono ?_
          rintro e u1 ⟨rfl, hb⟩
          exact hK _ _ _ rfl (hG.trans (hb.mono hG.size)) hb rfl
        · have e7 : f 7 = (.bool true) := hd 7 (by kernel_rfl)
          have e12 : f 12 = (.bool true) := hd 12 (by kernel_rfl)
          refine wanted_on rfl ?_
          simp only [putAll, Act.put, List.setIfInBounds_toArray, List.set_cons_zero, List.set_cons_succ, e7, e12] at hK ⊢
          go_simp
          exact hK _ _ _ rfl hG (Below.refl _ _) rfl
        · have e13 : f 13 = (.bool true) := hd 13 (by kernel_rfl)
          refine wanted_on rfl ?_
          simp only [putAll, Act.put, List.setIfInBounds_toArray, List.set_cons_zero, List.set_cons_succ, e13] at hK ⊢
          go_simp
          exact hK _ _ _ rfl hG (Below.refl _ _) rfl
        · have e14 : f 14 = (.bool true) := hd 14 (by kernel_rfl)
          refine wanted_on (by simp [Region.wanted, yielded, putAll, Act.put, List.setIfInBounds_toArray, List.set_cons_zero, List.set_cons_succ, e14]) ?_
          simp only [putAll, Act.put, List.setIfInBounds_toArray, List.set_cons_zero, List.set_cons_succ, e14] at hK ⊢
          go_simp
          exact hK _ _ _ rfl hG (Below.refl _ _) rfl
        · have e14 : f 14 = (.bool true) := hd 14 (by kernel_rfl)
          have e15 : f 15 = (.pointer (some ⟨u2.heap.size, 1, none⟩)) := hd 15 (by kernel_rfl)
          obtain ⟨⟨c0, c1, c2, c3⟩, _⟩ := box4 ((HB.out _ (HG3.out.trans (hG.mono HG3.out.size))).2.2.1)
          refine wanted_on (by simp [Region.wanted, yielded, putAll, Act.put, List.setIfInBounds_toArray, List.set_cons_zero, List.set_cons_succ, e14, e15]) ?_
          simp only [putAll, Act.put, List.setIfInBounds_toArray, List.set_cons_zero, List.set_cons_succ, e14, e15] at hK ⊢
          go_simp
          exact hK _ _ _ rfl hG (Below.refl _ _) rfl
        · have e14 : f 14 = (.bool true) := hd 14 (by kernel_rfl)
          refine wanted_on (by simp [Region.wanted, yielded, putAll, Act.put, List.setIfInBounds_toArray, List.set_cons_zero, List.set_cons_succ, e14]) ?_
          simp only [putAll, Act.put, List.setIfInBounds_toArray, List.set_cons_zero, List.set_cons_succ, e14] at hK ⊢
          go_simp
          exact hK _ _ _ rfl hG (Below.refl _ _) rfl
        · have e14 : f 14 = (.bool true) := hd 14 (by kernel_rfl)
          have e17 : f 17 = (.pointer (some ⟨u4.heap.size, 1, none⟩)) := hd 17 (by kernel_rfl)
          obtain ⟨⟨c0, c1, c2, c3⟩, _⟩ := box4 ((HB.out _ (HG3.out.trans (hG.mono HG3.out.size))).2.2.2.1)
          refine wanted_on (by simp [Region.wanted, yielded, putAll, Act.put, List.setIfInBounds_toArray, List.set_cons_zero, List.set_cons_succ, e14, e17]) ?_
          simp only [putAll, Act.put, List.setIfInBounds_toArray, List.set_cons_zero, List.set_cons_succ, e14, e17] at hK ⊢
          go_simp
          exact hK _ _ _ rfl hG (Below.refl _ _) rfl
        · have e14 : f 14 = (.bool true) := hd 14 (by kernel_rfl)
          have e16 : f 16 = (.int .i64 y.n) := hd 16 (by kernel_rfl)
          have e18 : f 18 = (.int .i64 y.n) := hd 18 (by kernel_rfl)
          refine wanted_on (by simp [Region.wanted, yielded, putAll, Act.put, List.setIfInBounds_toArray, List.set_cons_zero, List.set_cons_succ, e14, e16, e18]) ?_
          simp only [putAll, Act.put, List.setIfInBounds_toArray, List.set_cons_zero, List.set_cons_succ, e14, e16, e18] at hK ⊢
          go_simp
          exact hK _ _ _ rfl hG (Below.refl _ _) (by simp [isV, atR])
        · have e14 : f 14 = (.bool true) := hd 14 (by kernel_rfl)
          have e19 : f 19 = (.bool true) := hd 19 (by kernel_rfl)
          refine wanted_on rfl ?_
          simp only [putAll, Act.put, List.setIfInBounds_toArray, List.set_cons_zero, List.set_cons_succ, e14, e19] at hK ⊢
          go_simp
          exact hK _ _ _ rfl hG (Below.refl _ _) rfl
        · have e20 : f 20 = (.bool true) := hd 20 (by kernel_rfl)
          refine wanted_on rfl ?_
          simp only [putAll, Act.put, List.setIfInBounds_toArray, List.set_cons_zero, List.set_cons_succ, e20] at hK ⊢
          go_simp
          exact hK _ _ _ rfl hG (Below.refl _ _) rfl
        · have e21 : f 21 = (.bool true) := hd 21 (by kernel_rfl)
          refine wanted_on (by simp [Region.wanted, yielded, putAll, Act.put, List.setIfInBounds_toArray, List.set_cons_zero, List.set_cons_succ, e21]) ?_
          simp only [putAll, Act.put, List.setIfInBounds_toArray, List.set_cons_zero, List.set_cons_succ, e21] at hK ⊢
          go_simp
          exact hK _ _ _ rfl hG (Below.refl _ _) rfl
        · have e21 : f 21 = (.bool true) := hd 21 (by kernel_rfl)
          have e22 : f 22 = (.pointer (some ⟨u2.heap.size, 2, none⟩)) := hd 22 (by kernel_rfl)
          obtain ⟨⟨c0, c1, c2, c3⟩, _⟩ := box4 ((HB.out _ (HG3.out.trans (hG.mono HG3.out.size))).2.2.1)
          refine wanted_on (by simp [Region.wanted, yielded, putAll, Act.put, List.setIfInBounds_toArray, List.set_cons_zero, List.set_cons_succ, e21, e22]) ?_
          simp only [putAll, Act.put, List.setIfInBounds_toArray, List.set_cons_zero, List.set_cons_succ, e21, e22] at hK ⊢
          go_simp
          exact hK _ _ _ rfl hG (Below.refl _ _) rfl
        · have e21 : f 21 = (.bool true) := hd 21 (by kernel_rfl)
          refine wanted_on (by simp [Region.wanted, yielded, putAll, Act.put, List.setIfInBounds_toArray, List.set_cons_zero, List.set_cons_succ, e21]) ?_
          simp only [putAll, Act.put, List.setIfInBounds_toArray, List.set_cons_zero, List.set_cons_succ, e21] at hK ⊢
          go_simp
          exact hK _ _ _ rfl hG (Below.refl _ _) rfl
        · have e21 : f 21 = (.bool true) := hd 21 (by kernel_rfl)
          have e24 : f 24 = (.pointer (some ⟨u4.heap.size, 2, none⟩)) := hd 24 (by kernel_rfl)
          obtain ⟨⟨c0, c1, c2, c3⟩, _⟩ := box4 ((HB.out _ (HG3.out.trans (hG.mono HG3.out.size))).2.2.2.1)
          refine wanted_on (by simp [Region.wanted, yielded, putAll, Act.put, List.setIfInBounds_toArray, List.set_cons_zero, List.set_cons_succ, e21, e24]) ?_
          simp only [putAll, Act.put, List.setIfInBounds_toArray, List.set_cons_zero, List.set_cons_succ, e21, e24] at hK ⊢
          go_simp
          exact hK _ _ _ rfl hG (Below.refl _ _) rfl
        · have e21 : f 21 = (.bool true) := hd 21 (by kernel_rfl)
          have e23 : f 23 = (.string y.s) := hd 23 (by kernel_rfl)
          have e25 : f 25 = (.string y.s) := hd 25 (by kernel_rfl)
          refine wanted_on (by simp [Region.wanted, yielded, putAll, Act.put, List.setIfInBounds_toArray, List.set_cons_zero, List.set_cons_succ, e21, e23, e25]) ?_
          simp only [putAll, Act.put, List.setIfInBounds_toArray, List.set_cons_zero, List.set_cons_succ, e21, e23, e25] at hK ⊢
          go_simp
          exact hK _ _ _ rfl hG (Below.refl _ _) (by simp [isV, atR])
        · have e21 : f 21 = (.bool true) := hd 21 (by kernel_rfl)
          have e26 : f 26 = (.bool true) := hd 26 (by kernel_rfl)
          refine wanted_on rfl ?_
          simp only [putAll, Act.put, List.setIfInBounds_toArray, List.set_cons_zero, List.set_cons_succ, e21, e26] at hK ⊢
          go_simp
          exact hK _ _ _ rfl hG (Below.refl _ _) rfl
        · have e27 : f 27 = (.bool true) := hd 27 (by kernel_rfl)
          refine wanted_on rfl ?_
          simp only [putAll, Act.put, List.setIfInBounds_toArray, List.set_cons_zero, List.set_cons_succ, e27] at hK ⊢
          go_simp
          exact hK _ _ _ rfl hG (Below.refl _ _) rfl
        · have e28 : f 28 = (.bool true) := hd 28 (by kernel_rfl)
          refine wanted_on (by simp [Region.wanted, yielded, putAll, Act.put, List.setIfInBounds_toArray, List.set_cons_zero, List.set_cons_succ, e28]) ?_
          simp only [putAll, Act.put, List.setIfInBounds_toArray, List.set_cons_zero, List.set_cons_succ, e28] at hK ⊢
          go_simp
          exact hK _ _ _ rfl hG (Below.refl _ _) rfl
        · have e28 : f 28 = (.bool true) := hd 28 (by kernel_rfl)
          have e29 : f 29 = (.pointer (some ⟨u2.heap.size, 3, none⟩)) := hd 29 (by kernel_rfl)
          obtain ⟨⟨c0, c1, c2, c3⟩, _⟩ := box4 ((HB.out _ (HG3.out.trans (hG.mono HG3.out.size))).2.2.1)
          refine wanted_on (by simp [Region.wanted, yielded, putAll, Act.put, List.setIfInBounds_toArray, List.set_cons_zero, List.set_cons_succ, e28, e29]) ?_
          simp only [putAll, Act.put, List.setIfInBounds_toArray, List.set_cons_zero, List.set_cons_succ, e28, e29] at hK ⊢
          go_simp
          exact hK _ _ _ rfl hG (Below.refl _ _) rfl
        · have e28 : f 28 = (.bool true) := hd 28 (by kernel_rfl)
          have e30 : f 30 = (.slice po y.l.length pc) := hd 30 (by kernel_rfl)
          refine wanted_on (by simp [Region.wanted, yielded, putAll, Act.put, List.setIfInBounds_toArray, List.set_cons_zero, List.set_cons_succ, e28, e30]) ?_
          simp only [putAll, Act.put, List.setIfInBounds_toArray, List.set_cons_zero, List.set_cons_succ, e28, e30] at hK ⊢
          go_simp
          exact hK _ _ _ rfl hG (Below.refl _ _) rfl
        · have e28 : f 28 = (.bool true) := hd 28 (by kernel_rfl)
          refine wanted_on (by simp [Region.wanted, yielded, putAll, Act.put, List.setIfInBounds_toArray, List.set_cons_zero, List.set_cons_succ, e28]) ?_
          simp only [putAll, Act.put, List.setIfInBounds_toArray, List.set_cons_zero, List.set_cons_succ, e28] at hK ⊢
          go_simp
          exact hK _ _ _ rfl hG (Below.refl _ _) rfl
        · have e28 : f 28 = (.bool true) := hd 28 (by kernel_rfl)
          have e32 : f 32 = (.pointer (some ⟨u4.heap.size, 3, none⟩)) := hd 32 (by kernel_rfl)
          obtain ⟨⟨c0, c1, c2, c3⟩, _⟩ := box4 ((HB.out _ (HG3.out.trans (hG.mono HG3.out.size))).2.2.2.1)
          refine wanted_on (by simp [Region.wanted, yielded, putAll, Act.put, List.setIfInBounds_toArray, List.set_cons_zero, List.set_cons_succ, e28, e32]) ?_
          simp only [putAll, Act.put, List.setIfInBounds_toArray, List.set_cons_zero, List.set_cons_succ, e28, e32] at hK ⊢
          go_simp
          exact hK _ _ _ rfl hG (Below.refl _ _) rfl
        · have e28 : f 28 = (.bool true) := hd 28 (by kernel_rfl)
          have e33 : f 33 = (.slice qo y.l.length qc) := hd 33 (by kernel_rfl)
          refine wanted_on (by simp [Region.wanted, yielded, putAll, Act.put, List.setIfInBounds_toArray, List.set_cons_zero, List.set_cons_succ, e28, e33]) ?_
          simp only [putAll, Act.put, List.setIfInBounds_toArray, List.set_cons_zero, List.set_cons_succ, e28, e33] at hK ⊢
          go_simp
          exact hK _ _ _ rfl hG (Below.refl _ _) rfl
        · have e28 : f 28 = (.bool true) := hd 28 (by kernel_rfl)
          have e31 : f 31 = (.int .i64 y.l.length) := hd 31 (by kernel_rfl)
          have e34 : f 34 = (.int .i64 y.l.length) := hd 34 (by kernel_rfl)
          refine wanted_on (by simp [Region.wanted, yielded, putAll, Act.put, List.setIfInBounds_toArray, List.set_cons_zero, List.set_cons_succ, e28, e31, e34]) ?_
          simp only [putAll, Act.put, List.setIfInBounds_toArray, List.set_cons_zero, List.set_cons_succ, e28, e31, e34] at hK ⊢
          go_simp
          exact hK _ _ _ rfl hG (Below.refl _ _) (by simp [isV, atR])
        · have e28 : f 28 = (.bool true) := hd 28 (by kernel_rfl)
          have e35 : f 35 = (.bool true) := hd 35 (by kernel_rfl)
          refine wanted_on rfl ?_
          simp only [putAll, Act.put, List.setIfInBounds_toArray, List.set_cons_zero, List.set_cons_succ, e28, e35] at hK ⊢
          go_simp
          exact hK _ _ _ rfl hG (Below.refl _ _) rfl
        · have e36 : f 36 = (.bool true) := hd 36 (by kernel_rfl)
          refine wanted_on rfl ?_
          simp only [putAll, Act.put, List.setIfInBounds_toArray, List.set_cons_zero, List.set_cons_succ, e36] at hK ⊢
          go_simp
          exact hK _ _ _ rfl hG (Below.refl _ _) rfl
        · have e37 : f 37 = (.bool true) := hd 37 (by kernel_rfl)
          obtain ⟨⟨c0, c1, c2, c3⟩, _⟩ := box4 ((HB.out _ (HG3.out.trans (hG.mono HG3.out.size))).1)
          refine wanted_on (by simp [Region.wanted, yielded, putAll, Act.put, List.setIfInBounds_toArray, List.set_cons_zero, List.set_cons_succ, e37]) ?_
          simp only [putAll, Act.put, List.setIfInBounds_toArray, List.set_cons_zero, List.set_cons_succ, e37] at hK ⊢
          go_simp
          exact hK _ _ _ rfl hG (Below.refl _ _) rfl
        · have e37 : f 37 = (.bool true) := hd 37 (by kernel_rfl)
          have e38 : f 38 = (vval x0 L0) := hd 38 (by kernel_rfl)
          refine wanted_on (by simp [Region.wanted, yielded, putAll, Act.put, List.setIfInBounds_toArray, List.set_cons_zero, List.set_cons_succ, e37, e38]) ?_
          simp only [putAll, Act.put, List.setIfInBounds_toArray, List.set_cons_zero, List.set_cons_succ, e37, e38] at hK ⊢
          go_simp
          refine (HO0.out _ _ (m0.below (HB.out _ (HG3.out.trans (hG.mono HG3.out.size))).2.2.2.2.1 (Nat.le_refl _))).mono ?_
          rintro e u1 ⟨V, rfl, h1, hb⟩
          exact hK _ _ _ rfl (hG.trans (hb.mono hG.size)) hb ⟨_, rfl, h1⟩
        · have e37 : f 37 = (.bool true) := hd 37 (by kernel_rfl)
          obtain ⟨V39, e39, q39⟩ := hd 39 (by kernel_rfl)
          refine wanted_on (by simp [Region.wanted, yielded, putAll, Act.put, List.setIfInBounds_toArray, List.set_cons_zero, List.set_cons_succ, e37, e39]) ?_
          simp only [putAll, Act.put, List.setIfInBounds_toArray, List.set_cons_zero, List.set_cons_succ, e37, e39] at hK ⊢
          go_simp
          refine (HM0.out V39 u).mono ?_
          rintro e u1 ⟨rfl, hb⟩
          exact hK _ _ _ rfl (hG.trans (hb.mono hG.size)) hb rfl
        · have e37 : f 37 = (.bool true) := hd 37 (by kernel_rfl)
          obtain ⟨⟨c0, c1, c2, c3⟩, _⟩ := box4 ((HB.out _ (HG3.out.trans (hG.mono HG3.out.size))).2.2.1)
          refine wanted_on (by simp [Region.wanted, yielded, putAll, Act.put, List.setIfInBounds_toArray, List.set_cons_zero, List.set_cons_succ, e37]) ?_
          simp only [putAll, Act.put, List.setIfInBounds_toArray, List.set_cons_zero, List.set_cons_succ, e37] at hK ⊢
          go_simp
          exact hK _ _ _ rfl hG (Below.refl _ _) rfl
        · have e37 : f 37 = (.bool true) := hd 37 (by kernel_rfl)
          have e41 : f 41 = (vval y (.slice po y.l.length pc)) := hd 41 (by kernel_rfl)
          refine wanted_on (by simp [Region.wanted, yielded, putAll, Act.put, List.setIfInBounds_toArray, List.set_cons_zero, List.set_cons_succ, e37, e41]) ?_
          simp only [putAll, Act.put, List.setIfInBounds_toArray, List.set_cons_zero, List.set_cons_succ, e37, e41] at hK ⊢
          go_simp
          refine (HOY.out _ _ (HB.out _ (HG3.out.trans (hG.mono HG3.out.size))).2.2.2.2.2.1).mono ?_
          rintro e u1 ⟨V, rfl, h1, hb⟩
          exact hK _ _ _ rfl (hG.trans (hb.mono hG.size)) hb ⟨_, rfl, h1⟩
        · have e37 : f 37 = (.bool true) := hd 37 (by kernel_rfl)
          obtain ⟨V42, e42, q42⟩ := hd 42 (by kernel_rfl)
          refine wanted_on (by simp [Region.wanted, yielded, putAll, Act.put, List.setIfInBounds_toArray, List.set_cons_zero, List.set_cons_succ, e37, e42]) ?_
          simp only [putAll, Act.put, List.setIfInBounds_toArray, List.set_cons_zero, List.set_cons_succ, e37, e42] at hK ⊢
          go_simp
          refine (HMY.out V42 u).mono ?_
          rintro e u1 ⟨rfl, hb⟩
          exact hK _ _ _ rfl (hG.trans (hb.mono hG.size)) hb rfl
        · have e37 : f 37 = (.bool true) := hd 37 (by kernel_rfl)
          have e40 : f 40 = (.bool mm) := hd 40 (by kernel_rfl)
          have e43 : f 43 = (.bool mm) := hd 43 (by kernel_rfl)
          refine wanted_on (by simp [Region.wanted, yielded, putAll, Act.put, List.setIfInBounds_toArray, List.set_cons_zero, List.set_cons_succ, e37, e40, e43]) ?_
          simp only [putAll, Act.put, List.setIfInBounds_toArray, List.set_cons_zero, List.set_cons_succ, e37, e40, e43] at hK ⊢
          go_simp
          exact hK _ _ _ rfl hG (Below.refl _ _) (by simp [isV, atR])
        · have e37 : f 37 = (.bool true) := hd 37 (by kernel_rfl)
          have e44 : f 44 = (.bool true) := hd 44 (by kernel_rfl)
          refine wanted_on rfl ?_
          simp only [putAll, Act.put, List.setIfInBounds_toArray, List.set_cons_zero, List.set_cons_succ, e37, e44] at hK ⊢
          go_simp
          exact hK _ _ _ rfl hG (Below.refl _ _) rfl
        · have e45 : f 45 = (.bool true) := hd 45 (by kernel_rfl)
          refine wanted_on rfl ?_
          simp only [putAll, Act.put, List.setIfInBounds_toArray, List.set_cons_zero, List.set_cons_succ, e45] at hK ⊢
          go_simp
          exact hK _ _ _ rfl hG (Below.refl _ _) rfl
      · intro f5 u6 hG hf
        have HBB : Hid _ := (HB.out _ (HG3.out.trans (hG.mono HG3.out.size))).2.2.2.2.1
        have e46 : f5 46 = .bool true := hf 46 (by decide)
        simp only [putAll, Act.put, List.setIfInBounds_toArray, List.set_cons_zero, List.set_cons_succ, e46]
        clear hf e46 hG
        go_wp2_with fail
        go_ret
        exact ⟨rfl, HBB.out⟩

theorem contract (H : Type) (enc : TypeId × Value → H) (W : World) (base : Nat) (args : Array Value) (ds gs : List (DataW H)) (before : List MemPlace)
    (hval : ∀ (j : Nat) t v, Tryd.f5.params[j]? = some t → args[j]? = some v → Value.okWide Tryd.prog W .any base t v)
    (hW : DataW.Whole enc Tryd.prog Tryd.f5.params.toList Rows.valueSeenSpec.vars false W args.toList ds gs before)
    (hsz : (DataW.weightsEach Tryd.prog (Tryd.f5.params.toList ++ (Rows.OpenSpec.upto Rows.valueSeenSpec).bare.plain.varTypes Tryd.prog) (ds ++ gs)).all (· ≤ reachBytes) = true) (hk : Rows.uptoSmall H (ds ++ gs) = true) (hL : laidMetH Tryd.prog Rows.valueSeenRow.laid W) :
    Calls Tryd.prog 5 args W fun e W' => ∃ v, e = .returned v ∧ Rows.valueSeenSpec.post enc Tryd.prog Tryd.f5 false true false false W args v W' := by
  have hW' := hW
  obtain ⟨p, q, hA0, hV, rfl, hfz, hnd⟩ := hW
  have hA : DataW.TrodAll enc Tryd.prog W 0 (fun _ => true) true Tryd.f5.params.toList args.toList ds p := hA0
  rw [Tryd.params5] at hA hval hsz
  obtain ⟨v0, vs0, d0, ds0, p0, q0, hargs, rfl, rfl, h0, r0⟩ := trodAll_cons hA
  obtain ⟨v1, vs1, d1, ds1, p1, q1, rfl, rfl, rfl, h1, r1⟩ := trodAll_cons r0
  obtain ⟨rfl, rfl, rfl⟩ := trodAll_nil r1
  obtain rfl : args = #[v0, v1] := by cases args; simp_all
  obtain ⟨rfl, rfl⟩ := trodVars_none hV
  obtain ⟨x0, L0, rfl, i0, m0, b0⟩ := vcame_of_small (j := 0) (hval 0 24 v0 rfl rfl) h0 hsz rfl rfl hk
  obtain ⟨x1, L1, rfl, i1, m1, b1⟩ := vcame_of_small (j := 1) (hval 1 24 v1 rfl rfl) h1 hsz rfl rfl hk
  clear hA0
  simp only [List.append_nil] at hW'
  have hlt0 : ∀ x ∈ p0, x.block < W.heap.size := fun x hx => hW'.lt x (by simp [hx])
  have hlt1 : ∀ x ∈ p1, x.block < W.heap.size := fun x hx => hW'.lt x (by simp [hx])
  refine (walk x0 L0 x1 L1 W i0 m0 i1 m1 b0 b1 (pow_of hL)).mono fun e W' ⟨he, bel⟩ => ?_
  subst he
  exact ⟨_, rfl, _, _, _, [], p0 ++ (p1 ++ []), [], hW', trodAll_mk1 (shut_bool Tryd.underlying4 _), (trodAll_cons_mk (Below.trod (by kernel_rfl) (by kernel_rfl) (of_decide_eq_true (by kernel_rfl)) h0 bel hlt0) (trodAll_cons_mk (Below.trod (by kernel_rfl) (by kernel_rfl) (of_decide_eq_true (by kernel_rfl)) h1 bel hlt1) trodAll_mk0)), rfl, bel.frame _, fun h => by cases h⟩

noncomputable def low : Nat := (World.holding Tryd.prog default ⟨#[], #[], []⟩).heap.size
noncomputable def laidWorld (os : Os) : World :=
  let w0 := World.holding Tryd.prog os ⟨#[], #[], []⟩
  { w0 with heap := (((w0.heap.modify 1 fun
      | .cells _ t frozen => .cells #[.int .u64 1, .int .u64 10, .int .u64 100, .int .u64 1000, .int .u64 10000, .int .u64 100000, .int .u64 1000000, .int .u64 10000000, .int .u64 100000000, .int .u64 1000000000, .int .u64 10000000000, .int .u64 100000000000, .int .u64 1000000000000, .int .u64 10000000000000, .int .u64 100000000000000, .int .u64 1000000000000000, .int .u64 10000000000000000, .int .u64 100000000000000000, .int .u64 1000000000000000000, .int .u64 10000000000000000000] t frozen
      | o => o).modify 2 fun
      | .cells _ t frozen => .cells #[.int .u8 0, .int .u8 1, .int .u8 28, .int .u8 2, .int .u8 29, .int .u8 14, .int .u8 24, .int .u8 3, .int .u8 30, .int .u8 22, .int .u8 20, .int .u8 15, .int .u8 25, .int .u8 17, .int .u8 4, .int .u8 8, .int .u8 31, .int .u8 27, .int .u8 13, .int .u8 23, .int .u8 21, .int .u8 19, .int .u8 16, .int .u8 7, .int .u8 26, .int .u8 12, .int .u8 18, .int .u8 6, .int .u8 11, .int .u8 5, .int .u8 10, .int .u8 9] t frozen
      | o => o).modify 3 fun
      | .cells _ t frozen => .cells #[.int .u8 0, .int .u8 1, .int .u8 56, .int .u8 2, .int .u8 57, .int .u8 49, .int .u8 28, .int .u8 3, .int .u8 61, .int .u8 58, .int .u8 42, .int .u8 50, .int .u8 38, .int .u8 29, .int .u8 17, .int .u8 4, .int .u8 62, .int .u8 47, .int .u8 59, .int .u8 36, .int .u8 45, .int .u8 43, .int .u8 51, .int .u8 22, .int .u8 53, .int .u8 39, .int .u8 33, .int .u8 30, .int .u8 24, .int .u8 18, .int .u8 12, .int .u8 5, .int .u8 63, .int .u8 55, .int .u8 48, .int .u8 27, .int .u8 60, .int .u8 41, .int .u8 37, .int .u8 16, .int .u8 46, .int .u8 35, .int .u8 44, .int .u8 21, .int .u8 52, .int .u8 32, .int .u8 23, .int .u8 11, .int .u8 54, .int .u8 26, .int .u8 40, .int .u8 15, .int .u8 34, .int .u8 20, .int .u8 31, .int .u8 10, .int .u8 25, .int .u8 14, .int .u8 19, .int .u8 9, .int .u8 13, .int .u8 8, .int .u8 7, .int .u8 6] t frozen
      | o => o) }
theorem laid_met (os : Os) : laidMet Tryd.prog Rows.valueSeenUptoRow.laid ((laidWorld os).forCall (fun _ _ => 0) ⟨#[], #[.agg #[.int .i64 0, .int .i64 0, .string ByteArray.empty, .slice none 0 0], .agg #[.int .i64 0, .int .i64 0, .string ByteArray.empty, .slice none 0 0]], []⟩).memory :=
  laidMet_of_run' 8 (by kernel_rfl) (by kernel_rfl)
theorem reads (os : Os) {H : Type} (enc : TypeId × Value → H) : ∃ places, DataW.whole enc Tryd.prog ((laidWorld os).forCall (fun _ _ => 0) ⟨#[], #[.agg #[.int .i64 0, .int .i64 0, .string ByteArray.empty, .slice none 0 0], .agg #[.int .i64 0, .int .i64 0, .string ByteArray.empty, .slice none 0 0]], []⟩).memory Tryd.f5.params.toList Rows.valueSeenSpec.vars false #[Value.agg #[.int .i64 0, .int .i64 0, .string ByteArray.empty, .slice none 0 0], Value.agg #[.int .i64 0, .int .i64 0, .string ByteArray.empty, .slice none 0 0]].toList 8 = some ([.agg [.lit (.int .i64 0), .lit (.int .i64 0), .lit (.string []), .nil], .agg [.lit (.int .i64 0), .lit (.int .i64 0), .lit (.string []), .nil]], [], places) :=
  ⟨[], by kernel_rfl⟩

set_option maxRecDepth 100000 in
theorem lifted (os : Os) (started : os.Started) (H : Type) (enc : TypeId × Value → H) (F : Stop.Interp) :
    ReturnsInHanded {} Tryd.checked os 5 .any ((Rows.OpenSpec.upto Rows.valueSeenSpec).preRow enc Tryd.prog Tryd.f5 Rows.valueSeenUptoRow.domain false Rows.valueSeenUptoRow.laid) (((Rows.OpenSpec.upto Rows.valueSeenSpec).at F).post enc Tryd.prog Tryd.f5 false true false false) := by
  obtain ⟨places, hx⟩ := reads os enc
  refine returnsInHanded_of_row (C := Tryd.checked) (s := Rows.OpenSpec.upto Rows.valueSeenSpec) own started (by kernel_rfl) Tryd.func5
    (witness_row_at (enc := enc) (C := Tryd.checked) false (laidWorld os) #[.agg #[.int .i64 0, .int .i64 0, .string ByteArray.empty, .slice none 0 0], .agg #[.int .i64 0, .int .i64 0, .string ByteArray.empty, .slice none 0 0]] rfl (by kernel_rfl) (by kernel_rfl) (by kernel_rfl)
      (OpenSpec.preRow_of_cond 8 hx (by kernel_rfl) (fun k hk => by cases hk; kernel_rfl) (by kernel_rfl) (laid_met os))) ?_
  intro W base args ds gs before hval hW _ hcond hsz hL _ _
  exact contract H enc W base args ds gs before hval hW hsz (hcond _ rfl) hL

theorem said : Rows.ValueSeenUptoSaid :=
  OpenClaim.holds_of_cond 5 Tryd.f5 rfl rfl rfl rfl rfl rfl rfl ⟨rfl, rfl, rfl, rfl, rfl⟩ rfl rfl rfl rfl rfl (by kernel_rfl) Tryd.func5 (by kernel_rfl)
    (of_decide_eq_true (by kernel_rfl)) (by unfold Func.isWrapper; first | (rw [if_pos (by decide +kernel)]; kernel_rfl) | (rw [if_neg (by decide +kernel)]; exact ⟨rfl, rfl⟩))
    (fun os started H enc _ F => by rw [OpenClaim.pre_eq_preRow]; exact lifted os started H enc F)

theorem plain (f : FuncId) (fn : Func) (hf : Tryd.pinned.checked.prog.funcNamed "panicroad/panicroadkeep.ValueSeen" = some f) (hfn : Tryd.pinned.checked.prog.funcs[f]? = some fn) :
    false = Tryd.pinned.checked.prog.looks [] ∧ ∀ (j : Nat) t, fn.params[j]? = some t → Tryd.pinned.checked.prog.wantsStandIn t = false := by
  obtain rfl : f = 5 := Option.some.inj ((show Tryd.prog.funcNamed "panicroad/panicroadkeep.ValueSeen" = some 5 by kernel_rfl).symm.trans hf) |>.symm
  obtain rfl : fn = Tryd.f5 := (Option.some.inj (Tryd.func5.symm.trans hfn)).symm
  refine ⟨by kernel_rfl, fun j t ht => ?_⟩
  rw [Tryd.params5] at ht
  have hm := Array.mem_of_getElem? ht
  simp at hm
  subst hm
  exact (show Tryd.prog.wantsStandIn 24 = false by kernel_rfl)

theorem card : Rows.ValueSeenUptoCardSaid :=
  Claim7.holds_tied_plain_at .later [] _ _ _ _ said (fun _ h => by cases h) (by kernel_rfl) (fun _ h => by cases h) valueSeenUpto_row_tie rfl ⟨rfl, rfl⟩ (by kernel_rfl) rfl plain (by kernel_rfl)
#print axioms card
end Go.Proofs.YtjfmhppgjhgdaabDoor.valueSeen
