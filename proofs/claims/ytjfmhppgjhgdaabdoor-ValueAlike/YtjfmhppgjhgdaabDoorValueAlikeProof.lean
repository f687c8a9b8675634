/-
  For all values a, b, c that come in, to be the same is reflexive, symmetric and transitive: the law's function returns true; the library's tables hold at the start what the program's text lays (the card ties them).
-/
import Derived.Test.YtjfmhppgjhgdaabDoorVshown
import Derived.Stop.LaidErr
import Derived.Test.YtjfmhppgjhgdaabDoorVcame
import Derived.Test.YtjfmhppgjhgdaabDoorCards
import Derived.Test.YtjfmhppgjhgdaabDoorTie
import Derived.Deep.DeepHandedRow
import Derived.Lib.LaidTab
import Derived.SizedLaws
import Derived.Deep.DeepWitnessRowRef
namespace Go.Proofs.YtjfmhppgjhgdaabDoor.valueAlike
open Go.ChangeShapes Go.WideShapes Go.ChangeAt Go.RowKit
open Go.WideMaps Go.WideElems
open Go.ChangeMaps (open_string shut_string)
set_option linter.unusedVariables false
set_option maxRecDepth 100000

theorem own : ownKnob Tryd.prog.godebug = none := by kernel_rfl

theorem pow_tab : Lib.pow10Tab = [1, 10, 100, 1000, 10000, 100000, 1000000, 10000000, 100000000, 1000000000, 10000000000, 100000000000, 1000000000000, 10000000000000, 100000000000000, 1000000000000000, 10000000000000000, 100000000000000000, 1000000000000000000, 10000000000000000000] := by decide
theorem pow_of {W : World} (h : laidMetH Tryd.prog Rows.valueAlikeRow.laid W) : Pow W := by
  have h0 : laidMet Tryd.prog Rows.valueAlikeRow.laid W := h
  unfold Pow
  rw [pow_tab]
  exact Lib.tabIs_of_head Tryd.gPow (by kernel_rfl) Tryd.underlying64 Tryd.underlying58 (by kernel_rfl) (by kernel_rfl) h0.tail.tail

set_option maxHeartbeats 8000000 in
theorem walk (x0 : Vv) (L0 : Value) (x1 : Vv) (L1 : Value) (x2 : Vv) (L2 : Value) (w : World) (i0 : VIn x0) (m0 : ILies w L0 x0.l) (i1 : VIn x1) (m1 : ILies w L1 x1.l) (i2 : VIn x2) (m2 : ILies w L2 x2.l)  (hp : Pow w) :
    Calls Tryd.prog 4 #[vval x0 L0, vval x1 L1, vval x2 L2] w fun e w' => e = .returned (.bool true) ∧ Below w.heap.size w w' := by
  have HO0 : Hid (∀ (L : Value) (u : World), ILies u L x0.l → Calls Tryd.prog 14 #[vval x0 L] u fun e w' => ∃ L', e = .returned (vval x0 L') ∧ ILies w' L' x0.l ∧ Below u.heap.size u w') := fun L u h => own_own x0 L u i0 h
  have HO1 : Hid (∀ (L : Value) (u : World), ILies u L x1.l → Calls Tryd.prog 14 #[vval x1 L] u fun e w' => ∃ L', e = .returned (vval x1 L') ∧ ILies w' L' x1.l ∧ Below u.heap.size u w') := fun L u h => own_own x1 L u i1 h
  have HO2 : Hid (∀ (L : Value) (u : World), ILies u L x2.l → Calls Tryd.prog 14 #[vval x2 L] u fun e w' => ∃ L', e = .returned (vval x2 L') ∧ ILies w' L' x2.l ∧ Below u.heap.size u w') := fun L u h => own_own x2 L u i2 h
  have HB : Hid (∀ u, Below (((w.alloc (.cells #[.int .i64 x0.kind, .int .i64 x0.n, .string x0.s, L0] 24)).alloc (.cells #[.int .i64 x1.kind, .int .i64 x1.n, .string x1.s, L1] 24)).alloc (.cells #[.int .i64 x2.kind, .int .i64 x2.n, .string x2.s, L2] 24)).heap.size (((w.alloc (.cells #[.int .i64 x0.kind, .int .i64 x0.n, .string x0.s, L0] 24)).alloc (.cells #[.int .i64 x1.kind, .int .i64 x1.n, .string x1.s, L1] 24)).alloc (.cells #[.int .i64 x2.kind, .int .i64 x2.n, .string x2.s, L2] 24)) u → u.heap[w.heap.size]? = some (.cells #[.int .i64 x0.kind, .int .i64 x0.n, .string x0.s, L0] 24) ∧ u.heap[w.heap.size + 1]? = some (.cells #[.int .i64 x1.kind, .int .i64 x1.n, .string x1.s, L1] 24) ∧ u.heap[w.heap.size + 2]? = some (.cells #[.int .i64 x2.kind, .int .i64 x2.n, .string x2.s, L2] 24) ∧ Below w.heap.size w u) := fun u h => ⟨(three_boxes h).1, (three_boxes h).2.1, (three_boxes h).2.2.1, (three_boxes h).2.2.2.2⟩
  have HX : Hid (∃ b1 b2 b3, sameV x0 x1 = b1 ∧ sameV x1 x2 = b2 ∧ sameV x0 x2 = b3) := ⟨_, _, _, rfl, rfl, rfl⟩
  obtain ⟨b1, b2, b3, h01, h12, h02⟩ := HX.out
  clear HX
  have HS01 : Hid (∀ V V' u, ILies u V x0.l → ILies u V' x1.l → Calls Tryd.prog 13 #[vval x0 V, vval x1 V'] u fun e w' => e = .returned (.bool b1) ∧ Below u.heap.size u w') := fun V V' u h1 h2 => by
    have h := own_same x0 x1 V V' u i0 i1 h1 h2
    rwa [h01] at h
  have HS10 : Hid (∀ V V' u, ILies u V x1.l → ILies u V' x0.l → Calls Tryd.prog 13 #[vval x1 V, vval x0 V'] u fun e w' => e = .returned (.bool b1) ∧ Below u.heap.size u w') := fun V V' u h1 h2 => by
    have h := own_same x1 x0 V V' u i1 i0 h1 h2
    rwa [same_comm, h01] at h
  have HS12 : Hid (∀ V V' u, ILies u V x1.l → ILies u V' x2.l → Calls Tryd.prog 13 #[vval x1 V, vval x2 V'] u fun e w' => e = .returned (.bool b2) ∧ Below u.heap.size u w') := fun V V' u h1 h2 => by
    have h := own_same x1 x2 V V' u i1 i2 h1 h2
    rwa [h12] at h
  have HS02 : Hid (∀ V V' u, ILies u V x0.l → ILies u V' x2.l → Calls Tryd.prog 13 #[vval x0 V, vval x2 V'] u fun e w' => e = .returned (.bool b3) ∧ Below u.heap.size u w') := fun V V' u h1 h2 => by
    have h := own_same x0 x2 V V' u i0 i2 h1 h2
    rwa [h02] at h
  have HS00 : Hid (∀ V V' u, ILies u V x0.l → ILies u V' x0.l → Calls Tryd.prog 13 #[vval x0 V, vval x0 V'] u fun e w' => e = .returned (.bool true) ∧ Below u.heap.size u w') := fun V V' u h1 h2 => by
    have h := own_same x0 x0 V V' u i0 i0 h1 h2
    rwa [same_self] at h
  have HT : Hid (b1 = true → b2 = true → b3 = true) := by rw [← h01, ← h12, ← h02]; exact same_trans
  have HSH : Hid (∀ u, Below w.heap.size w u → Calls Tryd.prog 15 #[] u fun e w' => e = .returned (.bool true) ∧ Below u.heap.size u w') := fun u h => own_shown u (hp.below h)
  clear h01 h12 h02
  unfold vval
  go_enter Tryd.func4, Tryd.ntmps4
  go_wp2_with fail
  refine wp_grow [isV (vval x0 L0), isVal x0, isV (vval x1 L1), isVal x1, isV (.bool b1), isV (vval x1 L1), isVal x1, isV (vval x2 L2), isVal x2, isV (.bool b2), isV (.bool b1), isV (.bool b2)]
    ⟨stab_is _, stab_val _, stab_is _, stab_val _, stab_is _, stab_is _, stab_val _, stab_is _, stab_val _, stab_is _, stab_is _, stab_is _, trivial⟩ (by kernel_rfl) (by kernel_rfl) (by kernel_rfl) ?_ ?_
  · refine stepsOK_cons (fun f u hG hd K hK => ?_) (stepsOK_cons (fun f u hG hd K hK => ?_) (stepsOK_cons (fun f u hG hd K hK => ?_) (stepsOK_cons (fun f u hG hd K hK => ?_) (stepsOK_cons (fun f u hG hd K hK => ?_) (stepsOK_cons (fun f u hG hd K hK => ?_) (stepsOK_cons (fun f u hG hd K hK => ?_) (stepsOK_cons (fun f u hG hd K hK => ?_) (stepsOK_cons (fun f u hG hd K hK => ?_) (stepsOK_cons (fun f u hG hd K hK => ?_) (stepsOK_cons (fun f u hG hd K hK => ?_) (stepsOK_cons (fun f u hG hd K hK => ?_) stepsOK_nil)))))))))))
    · obtain ⟨⟨c0, c1, c2, c3⟩, _⟩ := box4 ((HB.out _ hG).1)
      refine wanted_on rfl ?_
      simp only [putAll, Act.put, List.setIfInBounds_toArray, List.set_cons_zero, List.set_cons_succ] at hK ⊢
      go_simp
      exact hK _ _ _ rfl hG (Below.refl _ _) rfl
    · have e0 : f 0 = (vval x0 L0) := hd 0 (by kernel_rfl)
      refine wanted_on rfl ?_
      simp only [putAll, Act.put, List.setIfInBounds_toArray, List.set_cons_zero, List.set_cons_succ, e0] at hK ⊢
      go_simp
      refine (HO0.out _ _ (m0.below (HB.out _ hG).2.2.2 (Nat.le_refl _))).mono ?_
      rintro e u1 ⟨V, rfl, h1, hb⟩
      exact hK _ _ _ rfl (hG.trans (hb.mono hG.size)) hb ⟨_, rfl, h1⟩
    · obtain ⟨⟨c0, c1, c2, c3⟩, _⟩ := box4 ((HB.out _ hG).2.1)
      refine wanted_on rfl ?_
      simp only [putAll, Act.put, List.setIfInBounds_toArray, List.set_cons_zero, List.set_cons_succ] at hK ⊢
      go_simp
      exact hK _ _ _ rfl hG (Below.refl _ _) rfl
    · have e2 : f 2 = (vval x1 L1) := hd 2 (by kernel_rfl)
      refine wanted_on rfl ?_
      simp only [putAll, Act.put, List.setIfInBounds_toArray, List.set_cons_zero, List.set_cons_succ, e2] at hK ⊢
      go_simp
      refine (HO1.out _ _ (m1.below (HB.out _ hG).2.2.2 (Nat.le_refl _))).mono ?_
      rintro e u1 ⟨V, rfl, h1, hb⟩
      exact hK _ _ _ rfl (hG.trans (hb.mono hG.size)) hb ⟨_, rfl, h1⟩
    · obtain ⟨V1, e1, q1⟩ := hd 1 (by kernel_rfl)
      obtain ⟨V3, e3, q3⟩ := hd 3 (by kernel_rfl)
      refine wanted_on rfl ?_
      simp only [putAll, Act.put, List.setIfInBounds_toArray, List.set_cons_zero, List.set_cons_succ, e1, e3] at hK ⊢
      go_simp
      refine (HS01.out V1 V3 u q1 q3).mono ?_
      rintro e u1 ⟨rfl, hb⟩
      exact hK _ _ _ rfl (hG.trans (hb.mono hG.size)) hb rfl
    · obtain ⟨⟨c0, c1, c2, c3⟩, _⟩ := box4 ((HB.out _ hG).2.1)
      refine wanted_on rfl ?_
      simp only [putAll, Act.put, List.setIfInBounds_toArray, List.set_cons_zero, List.set_cons_succ] at hK ⊢
      go_simp
      exact hK _ _ _ rfl hG (Below.refl _ _) rfl
    · have e5 : f 5 = (vval x1 L1) := hd 5 (by kernel_rfl)
      refine wanted_on rfl ?_
      simp only [putAll, Act.put, List.setIfInBounds_toArray, List.set_cons_zero, List.set_cons_succ, e5] at hK ⊢
      go_simp
      refine (HO1.out _ _ (m1.below (HB.out _ hG).2.2.2 (Nat.le_refl _))).mono ?_
      rintro e u1 ⟨V, rfl, h1, hb⟩
      exact hK _ _ _ rfl (hG.trans (hb.mono hG.size)) hb ⟨_, rfl, h1⟩
    · obtain ⟨⟨c0, c1, c2, c3⟩, _⟩ := box4 ((HB.out _ hG).2.2.1)
      refine wanted_on rfl ?_
      simp only [putAll, Act.put, List.setIfInBounds_toArray, List.set_cons_zero, List.set_cons_succ] at hK ⊢
      go_simp
      exact hK _ _ _ rfl hG (Below.refl _ _) rfl
    · have e7 : f 7 = (vval x2 L2) := hd 7 (by kernel_rfl)
      refine wanted_on rfl ?_
      simp only [putAll, Act.put, List.setIfInBounds_toArray, List.set_cons_zero, List.set_cons_succ, e7] at hK ⊢
      go_simp
      refine (HO2.out _ _ (m2.below (HB.out _ hG).2.2.2 (Nat.le_refl _))).mono ?_
      rintro e u1 ⟨V, rfl, h1, hb⟩
      exact hK _ _ _ rfl (hG.trans (hb.mono hG.size)) hb ⟨_, rfl, h1⟩
    · obtain ⟨V6, e6, q6⟩ := hd 6 (by kernel_rfl)
      obtain ⟨V8, e8, q8⟩ := hd 8 (by kernel_rfl)
      refine wanted_on rfl ?_
      simp only [putAll, Act.put, List.setIfInBounds_toArray, List.set_cons_zero, List.set_cons_succ, e6, e8] at hK ⊢
      go_simp
      refine (HS12.out V6 V8 u q6 q8).mono ?_
      rintro e u1 ⟨rfl, hb⟩
      exact hK _ _ _ rfl (hG.trans (hb.mono hG.size)) hb rfl
    · have e4 : f 4 = (.bool b1) := hd 4 (by kernel_rfl)
      refine wanted_on rfl ?_
      simp only [putAll, Act.put, List.setIfInBounds_toArray, List.set_cons_zero, List.set_cons_succ, e4] at hK ⊢
      go_simp
      exact hK _ _ _ rfl hG (Below.refl _ _) rfl
    · have e9 : f 9 = (.bool b2) := hd 9 (by kernel_rfl)
      refine wanted_on rfl ?_
      simp only [putAll, Act.put, List.setIfInBounds_toArray, List.set_cons_zero, List.set_cons_succ, e9] at hK ⊢
      go_simp
      exact hK _ _ _ rfl hG (Below.refl _ _) rfl
  · intro f1 u1 hG hf
    have HG1 : Hid (Below (((w.alloc (.cells #[.int .i64 x0.kind, .int .i64 x0.n, .string x0.s, L0] 24)).alloc (.cells #[.int .i64 x1.kind, .int .i64 x1.n, .string x1.s, L1] 24)).alloc (.cells #[.int .i64 x2.kind, .int .i64 x2.n, .string x2.s, L2] 24)).heap.size (((w.alloc (.cells #[.int .i64 x0.kind, .int .i64 x0.n, .string x0.s, L0] 24)).alloc (.cells #[.int .i64 x1.kind, .int .i64 x1.n, .string x1.s, L1] 24)).alloc (.cells #[.int .i64 x2.kind, .int .i64 x2.n, .string x2.s, L2] 24)) u1) := hG
    have e10 : f1 10 = .bool b1 := hf 10 (by decide)
    have e11 : f1 11 = .bool b2 := hf 11 (by decide)
    simp only [putAll, Act.put, List.setIfInBounds_toArray, List.set_cons_zero, List.set_cons_succ, e10, e11]
    clear hf e10 e11 hG
    go_wp2_with fail
    cases b1 with
    | false =>
      refine wp_grow [isV (.bool true), isV (.bool true), isV (vval x0 L0), isVal x0, isV (vval x0 L0), isVal x0, isV (.bool true), isV (.bool true), isV (.bool true), isV (.bool false), isV (vval x1 L1), isVal x1, isV (vval x0 L0), isVal x0, isV (.bool false), isV (.bool true), isV (.bool true), isV (.bool true), isV (.bool false), isV (.bool true), isV (.bool true), anyV, anyV, isV (.bool true), isV (.bool true), anyV, anyV, anyV, anyV, anyV, isV (.bool true), isV (.bool true), isV (.bool true)]
        ⟨stab_is _, stab_is _, stab_is _, stab_val _, stab_is _, stab_val _, stab_is _, stab_is _, stab_is _, stab_is _, stab_is _, stab_val _, stab_is _, stab_val _, stab_is _, stab_is _, stab_is _, stab_is _, stab_is _, stab_is _, stab_is _, stab_any, stab_any, stab_is _, stab_is _, stab_any, stab_any, stab_any, stab_any, stab_any, stab_is _, stab_is _, stab_is _, trivial⟩ (by kernel_rfl) (by kernel_rfl) (by kernel_rfl) ?_ ?_
      · refine stepsOK_cons (fun f u hG hd K hK => ?_) (stepsOK_cons (fun f u hG hd K hK => ?_) (stepsOK_cons (fun f u hG hd K hK => ?_) (stepsOK_cons (fun f u hG hd K hK => ?_) (stepsOK_cons (fun f u hG hd K hK => ?_) (stepsOK_cons (fun f u hG hd K hK => ?_) (stepsOK_cons (fun f u hG hd K hK => ?_) (stepsOK_cons (fun f u hG hd K hK => ?_) (stepsOK_cons (fun f u hG hd K hK => ?_) (stepsOK_cons (fun f u hG hd K hK => ?_) (stepsOK_cons (fun f u hG hd K hK => ?_) (stepsOK_cons (fun f u hG hd K hK => ?_) (stepsOK_cons (fun f u hG hd K hK => ?_) (stepsOK_cons (fun f u hG hd K hK => ?_) (stepsOK_cons (fun f u hG hd K hK => ?_) (stepsOK_cons (fun f u hG hd K hK => ?_) (stepsOK_cons (fun f u hG hd K hK => ?_) (stepsOK_cons (fun f u hG hd K hK => ?_) (stepsOK_cons (fun f u hG hd K hK => ?_) (stepsOK_cons (fun f u hG hd K hK => ?_) (stepsOK_cons (fun f u hG hd K hK => ?_) (stepsOK_cons (fun f u hG hd K hK => ?_) (stepsOK_cons (fun f u hG hd K hK => ?_) (stepsOK_cons (fun f u hG hd K hK => ?_) (stepsOK_cons (fun f u hG hd K hK => ?_) (stepsOK_cons (fun f u hG hd K hK => ?_) (stepsOK_cons (fun f u hG hd K hK => ?_) (stepsOK_cons (fun f u hG hd K hK => ?_) (stepsOK_cons (fun f u hG hd K hK => ?_) (stepsOK_cons (fun f u hG hd K hK => ?_) (stepsOK_cons (fun f u hG hd K hK => ?_) (stepsOK_cons (fun f u hG hd K hK => ?_) (stepsOK_cons (fun f u hG hd K hK => ?_) stepsOK_nil))))))))))))))))))))))))))))))))
        · refine wanted_on rfl ?_
          simp only [putAll, Act.put, List.setIfInBounds_toArray, List.set_cons_zero, List.set_cons_succ] at hK ⊢
          go_simp
          refine (HSH.out u (HB.out _ (HG1.out.trans (hG.mono HG1.out.size))).2.2.2).mono ?_
          rintro e u1 ⟨rfl, hb⟩
          exact hK _ _ _ rfl (hG.trans (hb.mono hG.size)) hb rfl
        · have e0 : f 0 = (.bool true) := hd 0 (by kernel_rfl)
          refine wanted_on rfl ?_
          simp only [putAll, Act.put, List.setIfInBounds_toArray, List.set_cons_zero, List.set_cons_succ, e0] at hK ⊢
          go_simp
          exact hK _ _ _ rfl hG (Below.refl _ _) rfl
        · have e1 : f 1 = (.bool true) := hd 1 (by kernel_rfl)
          obtain ⟨⟨c0, c1, c2, c3⟩, _⟩ := box4 ((HB.out _ (HG1.out.trans (hG.mono HG1.out.size))).1)
          refine wanted_on (by simp [Region.wanted, yielded, putAll, Act.put, List.setIfInBounds_toArray, List.set_cons_zero, List.set_cons_succ, e1]) ?_
          simp only [putAll, Act.put, List.setIfInBounds_toArray, List.set_cons_zero, List.set_cons_succ, e1] at hK ⊢
          go_simp
          exact hK _ _ _ rfl hG (Below.refl _ _) rfl
        · have e1 : f 1 = (.bool true) := hd 1 (by kernel_rfl)
          have e2 : f 2 = (vval x0 L0) := hd 2 (by kernel_rfl)
          refine wanted_on (by simp [Region.wanted, yielded, putAll, Act.put, List.setIfInBounds_toArray, List.set_cons_zero, List.set_cons_succ, e1, e2]) ?_
          simp only [putAll, Act.put, List.setIfInBounds_toArray, List.set_cons_zero, List.set_cons_succ, e1, e2] at hK ⊢
          go_simp
          refine (HO0.out _ _ (m0.below (HB.out _ (HG1.out.trans (hG.mono HG1.out.size))).2.2.2 (Nat.le_refl _))).mono ?_
          rintro e u1 ⟨V, rfl, h1, hb⟩
          exact hK _ _ _ rfl (hG.trans (hb.mono hG.size)) hb ⟨_, rfl, h1⟩
        · have e1 : f 1 = (.bool true) := hd 1 (by kernel_rfl)
          obtain ⟨⟨c0, c1, c2, c3⟩, _⟩ := box4 ((HB.out _ (HG1.out.trans (hG.mono HG1.out.size))).1)
          refine wanted_on (by simp [Region.wanted, yielded, putAll, Act.put, List.setIfInBounds_toArray, List.set_cons_zero, List.set_cons_succ, e1]) ?_
          simp only [putAll, Act.put, List.setIfInBounds_toArray, List.set_cons_zero, List.set_cons_succ, e1] at hK ⊢
          go_simp
          exact hK _ _ _ rfl hG (Below.refl _ _) rfl
        · have e1 : f 1 = (.bool true) := hd 1 (by kernel_rfl)
          have e4 : f 4 = (vval x0 L0) := hd 4 (by kernel_rfl)
          refine wanted_on (by simp [Region.wanted, yielded, putAll, Act.put, List.setIfInBounds_toArray, List.set_cons_zero, List.set_cons_succ, e1, e4]) ?_
          simp only [putAll, Act.put, List.setIfInBounds_toArray, List.set_cons_zero, List.set_cons_succ, e1, e4] at hK ⊢
          go_simp
          refine (HO0.out _ _ (m0.below (HB.out _ (HG1.out.trans (hG.mono HG1.out.size))).2.2.2 (Nat.le_refl _))).mono ?_
          rintro e u1 ⟨V, rfl, h1, hb⟩
          exact hK _ _ _ rfl (hG.trans (hb.mono hG.size)) hb ⟨_, rfl, h1⟩
        · have e1 : f 1 = (.bool true) := hd 1 (by kernel_rfl)
          obtain ⟨V3, e3, q3⟩ := hd 3 (by kernel_rfl)
          obtain ⟨V5, e5, q5⟩ := hd 5 (by kernel_rfl)
          refine wanted_on (by simp [Region.wanted, yielded, putAll, Act.put, List.setIfInBounds_toArray, List.set_cons_zero, List.set_cons_succ, e1, e3, e5]) ?_
          simp only [putAll, Act.put, List.setIfInBounds_toArray, List.set_cons_zero, List.set_cons_succ, e1, e3, e5] at hK ⊢
          go_simp
          refine (HS00.out V3 V5 u q3 q5).mono ?_
          rintro e u1 ⟨rfl, hb⟩
          exact hK _ _ _ rfl (hG.trans (hb.mono hG.size)) hb rfl
        · have e1 : f 1 = (.bool true) := hd 1 (by kernel_rfl)
          have e6 : f 6 = (.bool true) := hd 6 (by kernel_rfl)
          refine wanted_on rfl ?_
          simp only [putAll, Act.put, List.setIfInBounds_toArray, List.set_cons_zero, List.set_cons_succ, e1, e6] at hK ⊢
          go_simp
          exact hK _ _ _ rfl hG (Below.refl _ _) rfl
        · have e7 : f 7 = (.bool true) := hd 7 (by kernel_rfl)
          refine wanted_on rfl ?_
          simp only [putAll, Act.put, List.setIfInBounds_toArray, List.set_cons_zero, List.set_cons_succ, e7] at hK ⊢
          go_simp
          exact hK _ _ _ rfl hG (Below.refl _ _) rfl
        · have e8 : f 8 = (.bool true) := hd 8 (by kernel_rfl)
          refine wanted_on (by simp [Region.wanted, yielded, putAll, Act.put, List.setIfInBounds_toArray, List.set_cons_zero, List.set_cons_succ, e8]) ?_
          simp only [putAll, Act.put, List.setIfInBounds_toArray, List.set_cons_zero, List.set_cons_succ, e8] at hK ⊢
          go_simp
          exact hK _ _ _ rfl hG (Below.refl _ _) rfl
        · have e8 : f 8 = (.bool true) := hd 8 (by kernel_rfl)
          obtain ⟨⟨c0, c1, c2, c3⟩, _⟩ := box4 ((HB.out _ (HG1.out.trans (hG.mono HG1.out.size))).2.1)
          refine wanted_on (by simp [Region.wanted, yielded, putAll, Act.put, List.setIfInBounds_toArray, List.set_cons_zero, List.set_cons_succ, e8]) ?_
          simp only [putAll, Act.put, List.setIfInBounds_toArray, List.set_cons_zero, List.set_cons_succ, e8] at hK ⊢
          go_simp
          exact hK _ _ _ rfl hG (Below.refl _ _) rfl
        · have e8 : f 8 = (.bool true) := hd 8 (by kernel_rfl)
          have e10 : f 10 = (vval x1 L1) := hd 10 (by kernel_rfl)
          refine wanted_on (by simp [Region.wanted, yielded, putAll, Act.put, List.setIfInBounds_toArray, List.set_cons_zero, List.set_cons_succ, e8, e10]) ?_
          simp only [putAll, Act.put, List.setIfInBounds_toArray, List.set_cons_zero, List.set_cons_succ, e8, e10] at hK ⊢
          go_simp
          refine (HO1.out _ _ (m1.below (HB.out _ (HG1.out.trans (hG.mono HG1.out.size))).2.2.2 (Nat.le_refl _))).mono ?_
          rintro e u1 ⟨V, rfl, h1, hb⟩
          exact hK _ _ _ rfl (hG.trans (hb.mono hG.size)) hb ⟨_, rfl, h1⟩
        · have e8 : f 8 = (.bool true) := hd 8 (by kernel_rfl)
          obtain ⟨⟨c0, c1, c2, c3⟩, _⟩ := box4 ((HB.out _ (HG1.out.trans (hG.mono HG1.out.size))).1)
          refine wanted_on (by simp [Region.wanted, yielded, putAll, Act.put, List.setIfInBounds_toArray, List.set_cons_zero, List.set_cons_succ, e8]) ?_
          simp only [putAll, Act.put, List.setIfInBounds_toArray, List.set_cons_zero, List.set_cons_succ, e8] at hK ⊢
          go_simp
          exact hK _ _ _ rfl hG (Below.refl _ _) rfl
        · have e8 : f 8 = (.bool true) := hd 8 (by kernel_rfl)
          have e12 : f 12 = (vval x0 L0) := hd 12 (by kernel_rfl)
          refine wanted_on (by simp [Region.wanted, yielded, putAll, Act.put, List.setIfInBounds_toArray, List.set_cons_zero, List.set_cons_succ, e8, e12]) ?_
          simp only [putAll, Act.put, List.setIfInBounds_toArray, List.set_cons_zero, List.set_cons_succ, e8, e12] at hK ⊢
          go_simp
          refine (HO0.out _ _ (m0.below (HB.out _ (HG1.out.trans (hG.mono HG1.out.size))).2.2.2 (Nat.le_refl _))).mono ?_
          rintro e u1 ⟨V, rfl, h1, hb⟩
          exact hK _ _ _ rfl (hG.trans (hb.mono hG.size)) hb ⟨_, rfl, h1⟩
        · have e8 : f 8 = (.bool true) := hd 8 (by kernel_rfl)
          obtain ⟨V11, e11, q11⟩ := hd 11 (by kernel_rfl)
          obtain ⟨V13, e13, q13⟩ := hd 13 (by kernel_rfl)
          refine wanted_on (by simp [Region.wanted, yielded, putAll, Act.put, List.setIfInBounds_toArray, List.set_cons_zero, List.set_cons_succ, e8, e11, e13]) ?_
          simp only [putAll, Act.put, List.setIfInBounds_toArray, List.set_cons_zero, List.set_cons_succ, e8, e11, e13] at hK ⊢
          go_simp
          refine (HS10.out V11 V13 u q11 q13).mono ?_
          rintro e u1 ⟨rfl, hb⟩
          exact hK _ _ _ rfl (hG.trans (hb.mono hG.size)) hb rfl
        · have e8 : f 8 = (.bool true) := hd 8 (by kernel_rfl)
          have e9 : f 9 = (.bool false) := hd 9 (by kernel_rfl)
          have e14 : f 14 = (.bool false) := hd 14 (by kernel_rfl)
          refine wanted_on (by simp [Region.wanted, yielded, putAll, Act.put, List.setIfInBounds_toArray, List.set_cons_zero, List.set_cons_succ, e8, e9, e14]) ?_
          simp only [putAll, Act.put, List.setIfInBounds_toArray, List.set_cons_zero, List.set_cons_succ, e8, e9, e14] at hK ⊢
          go_simp
          exact hK _ _ _ rfl hG (Below.refl _ _) rfl
        · have e8 : f 8 = (.bool true) := hd 8 (by kernel_rfl)
          have e15 : f 15 = (.bool true) := hd 15 (by kernel_rfl)
          refine wanted_on rfl ?_
          simp only [putAll, Act.put, List.setIfInBounds_toArray, List.set_cons_zero, List.set_cons_succ, e8, e15] at hK ⊢
          go_simp
          exact hK _ _ _ rfl hG (Below.refl _ _) rfl
        · have e16 : f 16 = (.bool true) := hd 16 (by kernel_rfl)
          refine wanted_on rfl ?_
          simp only [putAll, Act.put, List.setIfInBounds_toArray, List.set_cons_zero, List.set_cons_succ, e16] at hK ⊢
          go_simp
          exact hK _ _ _ rfl hG (Below.refl _ _) rfl
        · have e17 : f 17 = (.bool true) := hd 17 (by kernel_rfl)
          refine wanted_on (by simp [Region.wanted, yielded, putAll, Act.put, List.setIfInBounds_toArray, List.set_cons_zero, List.set_cons_succ, e17]) ?_
          simp only [putAll, Act.put, List.setIfInBounds_toArray, List.set_cons_zero, List.set_cons_succ, e17] at hK ⊢
          go_simp
          exact hK _ _ _ rfl hG (Below.refl _ _) rfl
        · have e17 : f 17 = (.bool true) := hd 17 (by kernel_rfl)
          have e18 : f 18 = (.bool false) := hd 18 (by kernel_rfl)
          refine wanted_on (by simp [Region.wanted, yielded, putAll, Act.put, List.setIfInBounds_toArray, List.set_cons_zero, List.set_cons_succ, e17, e18]) ?_
          simp only [putAll, Act.put, List.setIfInBounds_toArray, List.set_cons_zero, List.set_cons_succ, e17, e18] at hK ⊢
          go_simp
          exact hK _ _ _ rfl hG (Below.refl _ _) rfl
        · have e17 : f 17 = (.bool true) := hd 17 (by kernel_rfl)
          have e19 : f 19 = (.bool true) := hd 19 (by kernel_rfl)
          refine wanted_on (by simp [Region.wanted, yielded, putAll, Act.put, List.setIfInBounds_toArray, List.set_cons_zero, List.set_cons_succ, e17, e19]) ?_
          simp only [putAll, Act.put, List.setIfInBounds_toArray, List.set_cons_zero, List.set_cons_succ, e17, e19] at hK ⊢
          go_simp
          exact hK _ _ _ rfl hG (Below.refl _ _) rfl
        · have e20 : f 20 = (.bool true) := hd 20 (by kernel_rfl)
          refine wanted_off (by simp [Region.wanted, yielded, putAll, Act.put, List.setIfInBounds_toArray, List.set_cons_zero, List.set_cons_succ, e20]) ?_
          exact hK _ _ _ rfl hG (Below.refl _ _) trivial
        · have e20 : f 20 = (.bool true) := hd 20 (by kernel_rfl)
          refine wanted_off (by simp [Region.wanted, yielded, putAll, Act.put, List.setIfInBounds_toArray, List.set_cons_zero, List.set_cons_succ, e20]) ?_
          exact hK _ _ _ rfl hG (Below.refl _ _) trivial
        · have e17 : f 17 = (.bool true) := hd 17 (by kernel_rfl)
          have e20 : f 20 = (.bool true) := hd 20 (by kernel_rfl)
          refine wanted_on (by simp [Region.wanted, yielded, putAll, Act.put, List.setIfInBounds_toArray, List.set_cons_zero, List.set_cons_succ, e17, e20]) ?_
          simp only [putAll, Act.put, List.setIfInBounds_toArray, List.set_cons_zero, List.set_cons_succ, e17, e20] at hK ⊢
          go_simp
          exact hK _ _ _ rfl hG (Below.refl _ _) rfl
        · have e17 : f 17 = (.bool true) := hd 17 (by kernel_rfl)
          have e23 : f 23 = (.bool true) := hd 23 (by kernel_rfl)
          refine wanted_on (by simp [Region.wanted, yielded, putAll, Act.put, List.setIfInBounds_toArray, List.set_cons_zero, List.set_cons_succ, e17, e23]) ?_
          simp only [putAll, Act.put, List.setIfInBounds_toArray, List.set_cons_zero, List.set_cons_succ, e17, e23] at hK ⊢
          go_simp
          exact hK _ _ _ rfl hG (Below.refl _ _) rfl
        · have e24 : f 24 = (.bool true) := hd 24 (by kernel_rfl)
          refine wanted_off (by simp [Region.wanted, yielded, putAll, Act.put, List.setIfInBounds_toArray, List.set_cons_zero, List.set_cons_succ, e24]) ?_
          exact hK _ _ _ rfl hG (Below.refl _ _) trivial
        · have e24 : f 24 = (.bool true) := hd 24 (by kernel_rfl)
          refine wanted_off (by simp [Region.wanted, yielded, putAll, Act.put, List.setIfInBounds_toArray, List.set_cons_zero, List.set_cons_succ, e24]) ?_
          exact hK _ _ _ rfl hG (Below.refl _ _) trivial
        · have e24 : f 24 = (.bool true) := hd 24 (by kernel_rfl)
          refine wanted_off (by simp [Region.wanted, yielded, putAll, Act.put, List.setIfInBounds_toArray, List.set_cons_zero, List.set_cons_succ, e24]) ?_
          exact hK _ _ _ rfl hG (Below.refl _ _) trivial
        · have e24 : f 24 = (.bool true) := hd 24 (by kernel_rfl)
          refine wanted_off (by simp [Region.wanted, yielded, putAll, Act.put, List.setIfInBounds_toArray, List.set_cons_zero, List.set_cons_succ, e24]) ?_
          exact hK _ _ _ rfl hG (Below.refl _ _) trivial
        · have e24 : f 24 = (.bool true) := hd 24 (by kernel_rfl)
          refine wanted_off (by simp [Region.wanted, yielded, putAll, Act.put, List.setIfInBounds_toArray, List.set_cons_zero, List.set_cons_succ, e24]) ?_
          exact hK _ _ _ rfl hG (Below.refl _ _) trivial
        · have e17 : f 17 = (.bool true) := hd 17 (by kernel_rfl)
          have e24 : f 24 = (.bool true) := hd 24 (by kernel_rfl)
          refine wanted_on (by simp [Region.wanted, yielded, putAll, Act.put, List.setIfInBounds_toArray, List.set_cons_zero, List.set_cons_succ, e17, e24]) ?_
          simp only [putAll, Act.put, List.setIfInBounds_toArray, List.set_cons_zero, List.set_cons_succ, e17, e24] at hK ⊢
          go_simp
          exact hK _ _ _ rfl hG (Below.refl _ _) rfl
        · have e17 : f 17 = (.bool true) := hd 17 (by kernel_rfl)
          have e30 : f 30 = (.bool true) := hd 30 (by kernel_rfl)
          refine wanted_on rfl ?_
          simp only [putAll, Act.put, List.setIfInBounds_toArray, List.set_cons_zero, List.set_cons_succ, e17, e30] at hK ⊢
          go_simp
          exact hK _ _ _ rfl hG (Below.refl _ _) rfl
        · have e31 : f 31 = (.bool true) := hd 31 (by kernel_rfl)
          refine wanted_on rfl ?_
          simp only [putAll, Act.put, List.setIfInBounds_toArray, List.set_cons_zero, List.set_cons_succ, e31] at hK ⊢
          go_simp
          exact hK _ _ _ rfl hG (Below.refl _ _) rfl
      · intro f2 u2 hG hf
        have HBB : Hid _ := (HB.out _ (HG1.out.trans (hG.mono HG1.out.size))).2.2.2
        have e32 : f2 32 = .bool true := hf 32 (by decide)
        simp only [putAll, Act.put, List.setIfInBounds_toArray, List.set_cons_zero, List.set_cons_succ, e32]
        clear hf e32 hG
        go_wp2_with fail
        go_ret
        exact ⟨rfl, HBB.out⟩
    | true =>
      cases b2 with
      | false =>
        refine wp_grow [isV (.bool true), isV (.bool true), isV (vval x0 L0), isVal x0, isV (vval x0 L0), isVal x0, isV (.bool true), isV (.bool true), isV (.bool true), isV (.bool true), isV (vval x1 L1), isVal x1, isV (vval x0 L0), isVal x0, isV (.bool true), isV (.bool true), isV (.bool true), isV (.bool true), isV (.bool true), isV (.bool false), isV (.bool false), isV (.bool false), isV (.bool true), isV (.bool true), isV (.bool true), anyV, anyV, anyV, anyV, anyV, isV (.bool true), isV (.bool true), isV (.bool true)]
          ⟨stab_is _, stab_is _, stab_is _, stab_val _, stab_is _, stab_val _, stab_is _, stab_is _, stab_is _, stab_is _, stab_is _, stab_val _, stab_is _, stab_val _, stab_is _, stab_is _, stab_is _, stab_is _, stab_is _, stab_is _, stab_is _, stab_is _, stab_is _, stab_is _, stab_is _, stab_any, stab_any, stab_any, stab_any, stab_any, stab_is _, stab_is _, stab_is _, trivial⟩ (by kernel_rfl) (by kernel_rfl) (by kernel_rfl) ?_ ?_
        · refine stepsOK_cons (fun f u hG hd K hK => ?_) (stepsOK_cons (fun f u hG hd K hK => ?_) (stepsOK_cons (fun f u hG hd K hK => ?_) (stepsOK_cons (fun f u hG hd K hK => ?_) (stepsOK_cons (fun f u hG hd K hK => ?_) (stepsOK_cons (fun f u hG hd K hK => ?_) (stepsOK_cons (fun f u hG hd K hK => ?_) (stepsOK_cons (fun f u hG hd K hK => ?_) (stepsOK_cons (fun f u hG hd K hK => ?_) (stepsOK_cons (fun f u hG hd K hK => ?_) (stepsOK_cons (fun f u hG hd K hK => ?_) (stepsOK_cons (fun f u hG hd K hK => ?_) (stepsOK_cons (fun f u hG hd K hK => ?_) (stepsOK_cons (fun f u hG hd K hK => ?_) (stepsOK_cons (fun f u hG hd K hK => ?_) (stepsOK_cons (fun f u hG hd K hK => ?_) (stepsOK_cons (fun f u hG hd K hK => ?_) (stepsOK_cons (fun f u hG hd K hK => ?_) (stepsOK_cons (fun f u hG hd K hK => ?_) (stepsOK_cons (fun f u hG hd K hK => ?_) (stepsOK_cons (fun f u hG hd K hK => ?_) (stepsOK_cons (fun f u hG hd K hK => ?_) (stepsOK_cons (fun f u hG hd K hK => ?_) (stepsOK_cons (fun f u hG hd K hK => ?_) (stepsOK_cons (fun f u hG hd K hK => ?_) (stepsOK_cons (fun f u hG hd K hK => ?_) (stepsOK_cons (fun f u hG hd K hK => ?_) (stepsOK_cons (fun f u hG hd K hK => ?_) (stepsOK_cons (fun f u hG hd K hK => ?_) (stepsOK_cons (fun f u hG hd K hK => ?_) (stepsOK_cons (fun f u hG hd K hK => ?_) (stepsOK_cons (fun f u hG hd K hK => ?_) (stepsOK_cons (fun f u hG hd K hK => ?_) stepsOK_nil))))))))))))))))))))))))))))))))
          · refine wanted_on rfl ?_
            simp only [putAll, Act.put, List.setIfInBounds_toArray, List.set_cons_zero, List.set_cons_succ] at hK ⊢
            go_simp
            refine (HSH.out u (HB.out _ (HG1.out.trans (hG.mono HG1.out.size))).2.2.2).mono ?_
            rintro e u1 ⟨rfl, hb⟩
            exact hK _ _ _ rfl (hG.trans (hb.mono hG.size)) hb rfl
          · have e0 : f 0 = (.bool true) := hd 0 (by kernel_rfl)
            refine wanted_on rfl ?_
            simp only [putAll, Act.put, List.setIfInBounds_toArray, List.set_cons_zero, List.set_cons_succ, e0] at hK ⊢
            go_simp
            exact hK _ _ _ rfl hG (Below.refl _ _) rfl
          · have e1 : f 1 = (.bool true) := hd 1 (by kernel_rfl)
            obtain ⟨⟨c0, c1, c2, c3⟩, _⟩ := box4 ((HB.out _ (HG1.out.trans (hG.mono HG1.out.size))).1)
            refine wanted_on (by simp [Region.wanted, yielded, putAll, Act.put, List.setIfInBounds_toArray, List.set_cons_zero, List.set_cons_succ, e1]) ?_
            simp only [putAll, Act.put, List.setIfInBounds_toArray, List.set_cons_zero, List.set_cons_succ, e1] at hK ⊢
            go_simp
            exact hK _ _ _ rfl hG (Below.refl _ _) rfl
          · have e1 : f 1 = (.bool true) := hd 1 (by kernel_rfl)
            have e2 : f 2 = (vval x0 L0) := hd 2 (by kernel_rfl)
            refine wanted_on (by simp [Region.wanted, yielded, putAll, Act.put, List.setIfInBounds_toArray, List.set_cons_zero, List.set_cons_succ, e1, e2]) ?_
            simp only [putAll, Act.put, List.setIfInBounds_toArray, List.set_cons_zero, List.set_cons_succ, e1, e2] at hK ⊢
            go_simp
            refine (HO0.out _ _ (m0.below (HB.out _ (HG1.out.trans (hG.mono HG1.out.size))).2.2.2 (Nat.le_refl _))).mono ?_
            rintro e u1 ⟨V, rfl, h1, hb⟩
            exact hK _ _ _ rfl (hG.trans (hb.mono hG.size)) hb ⟨_, rfl, h1⟩
          · have e1 : f 1 = (.bool true) := hd 1 (by kernel_rfl)
            obtain ⟨⟨c0, c1, c2, c3⟩, _⟩ := box4 ((HB.out _ (HG1.out.trans (hG.mono HG1.out.size))).1)
            refine wanted_on (by simp [Region.wanted, yielded, putAll, Act.put, List.setIfInBounds_toArray, List.set_cons_zero, List.set_cons_succ, e1]) ?_
            simp only [putAll, Act.put, List.setIfInBounds_toArray, List.set_cons_zero, List.set_cons_succ, e1] at hK ⊢
            go_simp
            exact hK _ _ _ rfl hG (Below.refl _ _) rfl
          · have e1 : f 1 = (.bool true) := hd 1 (by kernel_rfl)
            have e4 : f 4 = (vval x0 L0) := hd 4 (by kernel_rfl)
            refine wanted_on (by simp [Region.wanted, yielded, putAll, Act.put, List.setIfInBounds_toArray, List.set_cons_zero, List.set_cons_succ, e1, e4]) ?_
            simp only [putAll, Act.put, List.setIfInBounds_toArray, List.set_cons_zero, List.set_cons_succ, e1, e4] at hK ⊢
            go_simp
            refine (HO0.out _ _ (m0.below (HB.out _ (HG1.out.trans (hG.mono HG1.out.size))).2.2.2 (Nat.le_refl _))).mono ?_
            rintro e u1 ⟨V, rfl, h1, hb⟩
            exact hK _ _ _ rfl (hG.trans (hb.mono hG.size)) hb ⟨_, rfl, h1⟩
          · have e1 : f 1 = (.bool true) := hd 1 (by kernel_rfl)
            obtain ⟨V3, e3, q3⟩ := hd 3 (by kernel_rfl)
            obtain ⟨V5, e5, q5⟩ := hd 5 (by kernel_rfl)
            refine wanted_on (by simp [Region.wanted, yielded, putAll, Act.put, List.setIfInBounds_toArray, List.set_cons_zero, List.set_cons_succ, e1, e3, e5]) ?_
            simp only [putAll, Act.put, List.setIfInBounds_toArray, List.set_cons_zero, List.set_cons_succ, e1, e3, e5] at hK ⊢
            go_simp
            refine (HS00.out V3 V5 u q3 q5).mono ?_
            rintro e u1 ⟨rfl, hb⟩
            exact hK _ _ _ rfl (hG.trans (hb.mono hG.size)) hb rfl
          · have e1 : f 1 = (.bool true) := hd 1 (by kernel_rfl)
            have e6 : f 6 = (.bool true) := hd 6 (by kernel_rfl)
            refine wanted_on rfl ?_
            simp only [putAll, Act.put, List.setIfInBounds_toArray, List.set_cons_zero, List.set_cons_succ, e1, e6] at hK ⊢
            go_simp
            exact hK _ _ _ rfl hG (Below.refl _ _) rfl
          · have e7 : f 7 = (.bool true) := hd 7 (by kernel_rfl)
            refine wanted_on rfl ?_
            simp only [putAll, Act.put, List.setIfInBounds_toArray, List.set_cons_zero, List.set_cons_succ, e7] at hK ⊢
            go_simp
            exact hK _ _ _ rfl hG (Below.refl _ _) rfl
          · have e8 : f 8 = (.bool true) := hd 8 (by kernel_rfl)
            refine wanted_on (by simp [Region.wanted, yielded, putAll, Act.put, List.setIfInBounds_toArray, List.set_cons_zero, List.set_cons_succ, e8]) ?_
            simp only [putAll, Act.put, List.setIfInBounds_toArray, List.set_cons_zero, List.set_cons_succ, e8] at hK ⊢
            go_simp
            exact hK _ _ _ rfl hG (Below.refl _ _) rfl
          · have e8 : f 8 = (.bool true) := hd 8 (by kernel_rfl)
            obtain ⟨⟨c0, c1, c2, c3⟩, _⟩ := box4 ((HB.out _ (HG1.out.trans (hG.mono HG1.out.size))).2.1)
            refine wanted_on (by simp [Region.wanted, yielded, putAll, Act.put, List.setIfInBounds_toArray, List.set_cons_zero, List.set_cons_succ, e8]) ?_
            simp only [putAll, Act.put, List.setIfInBounds_toArray, List.set_cons_zero, List.set_cons_succ, e8] at hK ⊢
            go_simp
            exact hK _ _ _ rfl hG (Below.refl _ _) rfl
          · have e8 : f 8 = (.bool true) := hd 8 (by kernel_rfl)
            have e10 : f 10 = (vval x1 L1) := hd 10 (by kernel_rfl)
            refine wanted_on (by simp [Region.wanted, yielded, putAll, Act.put, List.setIfInBounds_toArray, List.set_cons_zero, List.set_cons_succ, e8, e10]) ?_
            simp only [putAll, Act.put, List.setIfInBounds_toArray, List.set_cons_zero, List.set_cons_succ, e8, e10] at hK ⊢
            go_simp
            refine (HO1.out _ _ (m1.below (HB.out _ (HG1.out.trans (hG.mono HG1.out.size))).2.2.2 (Nat.le_refl _))).mono ?_
            rintro e u1 ⟨V, rfl, h1, hb⟩
            exact hK _ _ _ rfl (hG.trans (hb.mono hG.size)) hb ⟨_, rfl, h1⟩
          · have e8 : f 8 = (.bool true) := hd 8 (by kernel_rfl)
            obtain ⟨⟨c0, c1, c2, c3⟩, _⟩ := box4 ((HB.out _ (HG1.out.trans (hG.mono HG1.out.size))).1)
            refine wanted_on (by simp [Region.wanted, yielded, putAll, Act.put, List.setIfInBounds_toArray, List.set_cons_zero, List.set_cons_succ, e8]) ?_
            simp only [putAll, Act.put, List.setIfInBounds_toArray, List.set_cons_zero, List.set_cons_succ, e8] at hK ⊢
            go_simp
            exact hK _ _ _ rfl hG (Below.refl _ _) rfl
          · have e8 : f 8 = (.bool true) := hd 8 (by kernel_rfl)
            have e12 : f 12 = (vval x0 L0) := hd 12 (by kernel_rfl)
            refine wanted_on (by simp [Region.wanted, yielded, putAll, Act.put, List.setIfInBounds_toArray, List.set_cons_zero, List.set_cons_succ, e8, e12]) ?_
            simp only [putAll, Act.put, List.setIfInBounds_toArray, List.set_cons_zero, List.set_cons_succ, e8, e12] at hK ⊢
            go_simp
            refine (HO0.out _ _ (m0.below (HB.out _ (HG1.out.trans (hG.mono HG1.out.size))).2.2.2 (Nat.le_refl _))).mono ?_
            rintro e u1 ⟨V, rfl, h1, hb⟩
            exact hK _ _ _ rfl (hG.trans (hb.mono hG.size)) hb ⟨_, rfl, h1⟩
          · have e8 : f 8 = (.bool true) := hd 8 (by kernel_rfl)
            obtain ⟨V11, e11, q11⟩ := hd 11 (by kernel_rfl)
            obtain ⟨V13, e13, q13⟩ := hd 13 (by kernel_rfl)
            refine wanted_on (by simp [Region.wanted, yielded, putAll, Act.put, List.setIfInBounds_toArray, List.set_cons_zero, List.set_cons_succ, e8, e11, e13]) ?_
            simp only [putAll, Act.put, List.setIfInBounds_toArray, List.set_cons_zero, List.set_cons_succ, e8, e11, e13] at hK ⊢
            go_simp
            refine (HS10.out V11 V13 u q11 q13).mono ?_
            rintro e u1 ⟨rfl, hb⟩
            exact hK _ _ _ rfl (hG.trans (hb.mono hG.size)) hb rfl
          · have e8 : f 8 = (.bool true) := hd 8 (by kernel_rfl)
            have e9 : f 9 = (.bool true) := hd 9 (by kernel_rfl)
            have e14 : f 14 = (.bool true) := hd 14 (by kernel_rfl)
            refine wanted_on (by simp [Region.wanted, yielded, putAll, Act.put, List.setIfInBounds_toArray, List.set_cons_zero, List.set_cons_succ, e8, e9, e14]) ?_
            simp only [putAll, Act.put, List.setIfInBounds_toArray, List.set_cons_zero, List.set_cons_succ, e8, e9, e14] at hK ⊢
            go_simp
            exact hK _ _ _ rfl hG (Below.refl _ _) rfl
          · have e8 : f 8 = (.bool true) := hd 8 (by kernel_rfl)
            have e15 : f 15 = (.bool true) := hd 15 (by kernel_rfl)
            refine wanted_on rfl ?_
            simp only [putAll, Act.put, List.setIfInBounds_toArray, List.set_cons_zero, List.set_cons_succ, e8, e15] at hK ⊢
            go_simp
            exact hK _ _ _ rfl hG (Below.refl _ _) rfl
          · have e16 : f 16 = (.bool true) := hd 16 (by kernel_rfl)
            refine wanted_on rfl ?_
            simp only [putAll, Act.put, List.setIfInBounds_toArray, List.set_cons_zero, List.set_cons_succ, e16] at hK ⊢
            go_simp
            exact hK _ _ _ rfl hG (Below.refl _ _) rfl
          · have e17 : f 17 = (.bool true) := hd 17 (by kernel_rfl)
            refine wanted_on (by simp [Region.wanted, yielded, putAll, Act.put, List.setIfInBounds_toArray, List.set_cons_zero, List.set_cons_succ, e17]) ?_
            simp only [putAll, Act.put, List.setIfInBounds_toArray, List.set_cons_zero, List.set_cons_succ, e17] at hK ⊢
            go_simp
            exact hK _ _ _ rfl hG (Below.refl _ _) rfl
          · have e17 : f 17 = (.bool true) := hd 17 (by kernel_rfl)
            have e18 : f 18 = (.bool true) := hd 18 (by kernel_rfl)
            refine wanted_on (by simp [Region.wanted, yielded, putAll, Act.put, List.setIfInBounds_toArray, List.set_cons_zero, List.set_cons_succ, e17, e18]) ?_
            simp only [putAll, Act.put, List.setIfInBounds_toArray, List.set_cons_zero, List.set_cons_succ, e17, e18] at hK ⊢
            go_simp
            exact hK _ _ _ rfl hG (Below.refl _ _) rfl
          · have e17 : f 17 = (.bool true) := hd 17 (by kernel_rfl)
            have e19 : f 19 = (.bool false) := hd 19 (by kernel_rfl)
            refine wanted_on (by simp [Region.wanted, yielded, putAll, Act.put, List.setIfInBounds_toArray, List.set_cons_zero, List.set_cons_succ, e17, e19]) ?_
            simp only [putAll, Act.put, List.setIfInBounds_toArray, List.set_cons_zero, List.set_cons_succ, e17, e19] at hK ⊢
            go_simp
            exact hK _ _ _ rfl hG (Below.refl _ _) rfl
          · have e20 : f 20 = (.bool false) := hd 20 (by kernel_rfl)
            refine wanted_on (by simp [Region.wanted, yielded, putAll, Act.put, List.setIfInBounds_toArray, List.set_cons_zero, List.set_cons_succ, e20]) ?_
            simp only [putAll, Act.put, List.setIfInBounds_toArray, List.set_cons_zero, List.set_cons_succ, e20] at hK ⊢
            go_simp
            exact hK _ _ _ rfl hG (Below.refl _ _) rfl
          · have e20 : f 20 = (.bool false) := hd 20 (by kernel_rfl)
            have e21 : f 21 = (.bool false) := hd 21 (by kernel_rfl)
            refine wanted_on (by simp [Region.wanted, yielded, putAll, Act.put, List.setIfInBounds_toArray, List.set_cons_zero, List.set_cons_succ, e20, e21]) ?_
            simp only [putAll, Act.put, List.setIfInBounds_toArray, List.set_cons_zero, List.set_cons_succ, e20, e21] at hK ⊢
            go_simp
            exact hK _ _ _ rfl hG (Below.refl _ _) rfl
          · have e17 : f 17 = (.bool true) := hd 17 (by kernel_rfl)
            have e20 : f 20 = (.bool false) := hd 20 (by kernel_rfl)
            have e22 : f 22 = (.bool true) := hd 22 (by kernel_rfl)
            refine wanted_on (by simp [Region.wanted, yielded, putAll, Act.put, List.setIfInBounds_toArray, List.set_cons_zero, List.set_cons_succ, e17, e20, e22]) ?_
            simp only [putAll, Act.put, List.setIfInBounds_toArray, List.set_cons_zero, List.set_cons_succ, e17, e20, e22] at hK ⊢
            go_simp
            exact hK _ _ _ rfl hG (Below.refl _ _) rfl
          · have e17 : f 17 = (.bool true) := hd 17 (by kernel_rfl)
            have e23 : f 23 = (.bool true) := hd 23 (by kernel_rfl)
            refine wanted_on (by simp [Region.wanted, yielded, putAll, Act.put, List.setIfInBounds_toArray, List.set_cons_zero, List.set_cons_succ, e17, e23]) ?_
            simp only [putAll, Act.put, List.setIfInBounds_toArray, List.set_cons_zero, List.set_cons_succ, e17, e23] at hK ⊢
            go_simp
            exact hK _ _ _ rfl hG (Below.refl _ _) rfl
          · have e24 : f 24 = (.bool true) := hd 24 (by kernel_rfl)
            refine wanted_off (by simp [Region.wanted, yielded, putAll, Act.put, List.setIfInBounds_toArray, List.set_cons_zero, List.set_cons_succ, e24]) ?_
            exact hK _ _ _ rfl hG (Below.refl _ _) trivial
          · have e24 : f 24 = (.bool true) := hd 24 (by kernel_rfl)
            refine wanted_off (by simp [Region.wanted, yielded, putAll, Act.put, List.setIfInBounds_toArray, List.set_cons_zero, List.set_cons_succ, e24]) ?_
            exact hK _ _ _ rfl hG (Below.refl _ _) trivial
          · have e24 : f 24 = (.bool true) := hd 24 (by kernel_rfl)
            refine wanted_off (by simp [Region.wanted, yielded, putAll, Act.put, List.setIfInBounds_toArray, List.set_cons_zero, List.set_cons_succ, e24]) ?_
            exact hK _ _ _ rfl hG (Below.refl _ _) trivial
          · have e24 : f 24 = (.bool true) := hd 24 (by kernel_rfl)
            refine wanted_off (by simp [Region.wanted, yielded, putAll, Act.put, List.setIfInBounds_toArray, List.set_cons_zero, List.set_cons_succ, e24]) ?_
            exact hK _ _ _ rfl hG (Below.refl _ _) trivial
          · have e24 : f 24 = (.bool true) := hd 24 (by kernel_rfl)
            refine wanted_off (by simp [Region.wanted, yielded, putAll, Act.put, List.setIfInBounds_toArray, List.set_cons_zero, List.set_cons_succ, e24]) ?_
            exact hK _ _ _ rfl hG (Below.refl _ _) trivial
          · have e17 : f 17 = (.bool true) := hd 17 (by kernel_rfl)
            have e24 : f 24 = (.bool true) := hd 24 (by kernel_rfl)
            refine wanted_on (by simp [Region.wanted, yielded, putAll, Act.put, List.setIfInBounds_toArray, List.set_cons_zero, List.set_cons_succ, e17, e24]) ?_
            simp only [putAll, Act.put, List.setIfInBounds_toArray, List.set_cons_zero, List.set_cons_succ, e17, e24] at hK ⊢
            go_simp
            exact hK _ _ _ rfl hG (Below.refl _ _) rfl
          · have e17 : f 17 = (.bool true) := hd 17 (by kernel_rfl)
            have e30 : f 30 = (.bool true) := hd 30 (by kernel_rfl)
            refine wanted_on rfl ?_
            simp only [putAll, Act.put, List.setIfInBounds_toArray, List.set_cons_zero, List.set_cons_succ, e17, e30] at hK ⊢
            go_simp
            exact hK _ _ _ rfl hG (Below.refl _ _) rfl
          · have e31 : f 31 = (.bool true) := hd 31 (by kernel_rfl)
            refine wanted_on rfl ?_
            simp only [putAll, Act.put, List.setIfInBounds_toArray, List.set_cons_zero, List.set_cons_succ, e31] at hK ⊢
            go_simp
            exact hK _ _ _ rfl hG (Below.refl _ _) rfl
        · intro f2 u2 hG hf
          have HBB : Hid _ := (HB.out _ (HG1.out.trans (hG.mono HG1.out.size))).2.2.2
          have e32 : f2 32 = .bool true := hf 32 (by decide)
          simp only [putAll, Act.put, List.setIfInBounds_toArray, List.set_cons_zero, List.set_cons_succ, e32]
          clear hf e32 hG
          go_wp2_with fail
          go_ret
          exact ⟨rfl, HBB.out⟩
      | true =>
        have hb3 : b3 = true := HT.out rfl rfl
        subst hb3
        refine wp_grow [isV (.bool true), isV (.bool true), isV (vval x0 L0), isVal x0, isV (vval x0 L0), isVal x0, isV (.bool true), isV (.bool true), isV (.bool true), isV (.bool true), isV (vval x1 L1), isVal x1, isV (vval x0 L0), isVal x0, isV (.bool true), isV (.bool true), isV (.bool true), isV (.bool true), isV (.bool true), isV (.bool false), isV (.bool false), isV (.bool true), isV (.bool false), isV (.bool false), isV (.bool false), isV (vval x0 L0), isVal x0, isV (vval x2 L2), isVal x2, isV (.bool true), isV (.bool true), isV (.bool true), isV (.bool true)]
          ⟨stab_is _, stab_is _, stab_is _, stab_val _, stab_is _, stab_val _, stab_is _, stab_is _, stab_is _, stab_is _, stab_is _, stab_val _, stab_is _, stab_val _, stab_is _, stab_is _, stab_is _, stab_is _, stab_is _, stab_is _, stab_is _, stab_is _, stab_is _, stab_is _, stab_is _, stab_is _, stab_val _, stab_is _, stab_val _, stab_is _, stab_is _, stab_is _, stab_is _, trivial⟩ (by kernel_rfl) (by kernel_rfl) (by kernel_rfl) ?_ ?_
        · refine stepsOK_cons (fun f u hG hd K hK => ?_) (stepsOK_cons (fun f u hG hd K hK => ?_) (stepsOK_cons (fun f u hG hd K hK => ?_) (stepsOK_cons (fun f u hG hd K hK => ?_) (stepsOK_cons (fun f u hG hd K hK => ?_) (stepsOK_cons (fun f u hG hd K hK => ?_) (stepsOK_cons (fun f u hG hd K hK => ?_) (stepsOK_cons (fun f u hG hd K hK => ?_) (stepsOK_cons (fun f u hG hd K hK => ?_) (stepsOK_cons (fun f u hG hd K hK => ?_) (stepsOK_cons (fun f u hG hd K hK => ?_) (stepsOK_cons (fun f u hG hd K hK => ?_) (stepsOK_cons (fun f u hG hd K hK => ?_) (stepsOK_cons (fun f u hG hd K hK => ?_) (stepsOK_cons (fun f u hG hd K hK => ?_) (stepsOK_cons (fun f u hG hd K hK => ?_) (stepsOK_cons (fun f u hG hd K hK => ?_) (stepsOK_cons (fun f u hG hd K hK => ?_) (stepsOK_cons (fun f u hG hd K hK => ?_) (stepsOK_cons (fun f u hG hd K hK => ?_) (stepsOK_cons (fun f u hG hd K hK => ?_) (stepsOK_cons (fun f u hG hd K hK => ?_) (stepsOK_cons (fun f u hG hd K hK => ?_) (stepsOK_cons (fun f u hG hd K hK => ?_) (stepsOK_cons (fun f u hG hd K hK => ?_) (stepsOK_cons (fun f u hG hd K hK => ?_) (stepsOK_cons (fun f u hG hd K hK => ?_) (stepsOK_cons (fun f u hG hd K hK => ?_) (stepsOK_cons (fun f u hG hd K hK => ?_) (stepsOK_cons (fun f u hG hd K hK => ?_) (stepsOK_cons (fun f u hG hd K hK => ?_) (stepsOK_cons (fun f u hG hd K hK => ?_) (stepsOK_cons (fun f u hG hd K hK => ?_) stepsOK_nil))))))))))))))))))))))))))))))))
          · refine wanted_on rfl ?_
            simp only [putAll, Act.put, List.setIfInBounds_toArray, List.set_cons_zero, List.set_cons_succ] at hK ⊢
            go_simp
            refine (HSH.out u (HB.out _ (HG1.out.trans (hG.mono HG1.out.size))).2.2.2).mono ?_
            rintro e u1 ⟨rfl, hb⟩
            exact hK _ _ _ rfl (hG.trans (hb.mono hG.size)) hb rfl
          · have e0 : f 0 = (.bool true) := hd 0 (by kernel_rfl)
            refine wanted_on rfl ?_
            simp only [putAll, Act.put, List.setIfInBounds_toArray, List.set_cons_zero, List.set_cons_succ, e0] at hK ⊢
            go_simp
            exact hK _ _ _ rfl hG (Below.refl _ _) rfl
          · have e1 : f 1 = (.bool true) := hd 1 (by kernel_rfl)
            obtain ⟨⟨c0, c1, c2, c3⟩, _⟩ := box4 ((HB.out _ (HG1.out.trans (hG.mono HG1.out.size))).1)
            refine wanted_on (by simp [Region.wanted, yielded, putAll, Act.put, List.setIfInBounds_toArray, List.set_cons_zero, List.set_cons_succ, e1]) ?_
            simp only [putAll, Act.put, List.setIfInBounds_toArray, List.set_cons_zero, List.set_cons_succ, e1] at hK ⊢
            go_simp
            exact hK _ _ _ rfl hG (Below.refl _ _) rfl
          · have e1 : f 1 = (.bool true) := hd 1 (by kernel_rfl)
            have e2 : f 2 = (vval x0 L0) := hd 2 (by kernel_rfl)
            refine wanted_on (by simp [Region.wanted, yielded, putAll, Act.put, List.setIfInBounds_toArray, List.set_cons_zero, List.set_cons_succ, e1, e2]) ?_
            simp only [putAll, Act.put, List.setIfInBounds_toArray, List.set_cons_zero, List.set_cons_succ, e1, e2] at hK ⊢
            go_simp
            refine (HO0.out _ _ (m0.below (HB.out _ (HG1.out.trans (hG.mono HG1.out.size))).2.2.2 (Nat.le_refl _))).mono ?_
            rintro e u1 ⟨V, rfl, h1, hb⟩
            exact hK _ _ _ rfl (hG.trans (hb.mono hG.size)) hb ⟨_, rfl, h1⟩
          · have e1 : f 1 = (.bool true) := hd 1 (by kernel_rfl)
            obtain ⟨⟨c0, c1, c2, c3⟩, _⟩ := box4 ((HB.out _ (HG1.out.trans (hG.mono HG1.out.size))).1)
            refine wanted_on (by simp [Region.wanted, yielded, putAll, Act.put, List.setIfInBounds_toArray, List.set_cons_zero, List.set_cons_succ, e1]) ?_
            simp only [putAll, Act.put, List.setIfInBounds_toArray, List.set_cons_zero, List.set_cons_succ, e1] at hK ⊢
            go_simp
            exact hK _ _ _ rfl hG (Below.refl _ _) rfl
          · have e1 : f 1 = (.bool true) := hd 1 (by kernel_rfl)
            have e4 : f 4 = (vval x0 L0) := hd 4 (by kernel_rfl)
            refine wanted_on (by simp [Region.wanted, yielded, putAll, Act.put, List.setIfInBounds_toArray, List.set_cons_zero, List.set_cons_succ, e1, e4]) ?_
            simp only [putAll, Act.put, List.setIfInBounds_toArray, List.set_cons_zero, List.set_cons_succ, e1, e4] at hK ⊢
            go_simp
            refine (HO0.out _ _ (m0.below (HB.out _ (HG1.out.trans (hG.mono HG1.out.size))).2.2.2 (Nat.le_refl _))).mono ?_
            rintro e u1 ⟨V, rfl, h1, hb⟩
            exact hK _ _ _ rfl (hG.trans (hb.mono hG.size)) hb ⟨_, rfl, h1⟩
          · have e1 : f 1 = (.bool true) := hd 1 (by kernel_rfl)
            obtain ⟨V3, e3, q3⟩ := hd 3 (by kernel_rfl)
            obtain ⟨V5, e5, q5⟩ := hd 5 (by kernel_rfl)
            refine wanted_on (by simp [Region.wanted, yielded, putAll, Act.put, List.setIfInBounds_toArray, List.set_cons_zero, List.set_cons_succ, e1, e3, e5]) ?_
            simp only [putAll, Act.put, List.setIfInBounds_toArray, List.set_cons_zero, List.set_cons_succ, e1, e3, e5] at hK ⊢
            go_simp
            refine (HS00.out V3 V5 u q3 q5).mono ?_
            rintro e u1 ⟨rfl, hb⟩
            exact hK _ _ _ rfl (hG.trans (hb.mono hG.size)) hb rfl
          · have e1 : f 1 = (.bool true) := hd 1 (by kernel_rfl)
            have e6 : f 6 = (.bool true) := hd 6 (by kernel_rfl)
            refine wanted_on rfl ?_
            simp only [putAll, Act.put, List.setIfInBounds_toArray, List.set_cons_zero, List.set_cons_succ, e1, e6] at hK ⊢
            go_simp
            exact hK _ _ _ rfl hG (Below.refl _ _) rfl
          · have e7 : f 7 = (.bool true) := hd 7 (by kernel_rfl)
            refine wanted_on rfl ?_
            simp only [putAll, Act.put, List.setIfInBounds_toArray, List.set_cons_zero, List.set_cons_succ, e7] at hK ⊢
            go_simp
            exact hK _ _ _ rfl hG (Below.refl _ _) rfl
          · have e8 : f 8 = (.bool true) := hd 8 (by kernel_rfl)
            refine wanted_on (by simp [Region.wanted, yielded, putAll, Act.put, List.setIfInBounds_toArray, List.set_cons_zero, List.set_cons_succ, e8]) ?_
            simp only [putAll, Act.put, List.setIfInBounds_toArray, List.set_cons_zero, List.set_cons_succ, e8] at hK ⊢
            go_simp
            exact hK _ _ _ rfl hG (Below.refl _ _) rfl
          · have e8 : f 8 = (.bool true) := hd 8 (by kernel_rfl)
            obtain ⟨⟨c0, c1, c2, c3⟩, _⟩ := box4 ((HB.out _ (HG1.out.trans (hG.mono HG1.out.size))).2.1)
            refine wanted_on (by simp [Region.wanted, yielded, putAll, Act.put, List.setIfInBounds_toArray, List.set_cons_zero, List.set_cons_succ, e8]) ?_
            simp only [putAll, Act.put, List.setIfInBounds_toArray, List.set_cons_zero, List.set_cons_succ, e8] at hK ⊢
            go_simp
            exact hK _ _ _ rfl hG (Below.refl _ _) rfl
          · have e8 : f 8 = (.bool true) := hd 8 (by kernel_rfl)
            have e10 : f 10 = (vval x1 L1) := hd 10 (by kernel_rfl)
            refine wanted_on (by simp [Region.wanted, yielded, putAll, Act.put, List.setIfInBounds_toArray, List.set_cons_zero, List.set_cons_succ, e8, e10]) ?_
            simp only [putAll, Act.put, List.setIfInBounds_toArray, List.set_cons_zero, List.set_cons_succ, e8, e10] at hK ⊢
            go_simp
            refine (HO1.out _ _ (m1.below (HB.out _ (HG1.out.trans (hG.mono HG1.out.size))).2.2.2 (Nat.le_refl _))).mono ?_
            rintro e u1 ⟨V, rfl, h1, hb⟩
            exact hK _ _ _ rfl (hG.trans (hb.mono hG.size)) hb ⟨_, rfl, h1⟩
          · have e8 : f 8 = (.bool true) := hd 8 (by kernel_rfl)
            obtain ⟨⟨c0, c1, c2, c3⟩, _⟩ := box4 ((HB.out _ (HG1.out.trans (hG.mono HG1.out.size))).1)
            refine wanted_on (by simp [Region.wanted, yielded, putAll, Act.put, List.setIfInBounds_toArray, List.set_cons_zero, List.set_cons_succ, e8]) ?_
            simp only [putAll, Act.put, List.setIfInBounds_toArray, List.set_cons_zero, List.set_cons_succ, e8] at hK ⊢
            go_simp
            exact hK _ _ _ rfl hG (Below.refl _ _) rfl
          · have e8 : f 8 = (.bool true) := hd 8 (by kernel_rfl)
            have e12 : f 12 = (vval x0 L0) := hd 12 (by kernel_rfl)
            refine wanted_on (by simp [Region.wanted, yielded, putAll, Act.put, List.setIfInBounds_toArray, List.set_cons_zero, List.set_cons_succ, e8, e12]) ?_
            simp only [putAll, Act.put, List.setIfInBounds_toArray, List.set_cons_zero, List.set_cons_succ, e8, e12] at hK ⊢
            go_simp
            refine (HO0.out _ _ (m0.below (HB.out _ (HG1.out.trans (hG.mono HG1.out.size))).2.2.2 (Nat.le_refl _))).mono ?_
            rintro e u1 ⟨V, rfl, h1, hb⟩
            exact hK _ _ _ rfl (hG.trans (hb.mono hG.size)) hb ⟨_, rfl, h1⟩
          · have e8 : f 8 = (.bool true) := hd 8 (by kernel_rfl)
            obtain ⟨V11, e11, q11⟩ := hd 11 (by kernel_rfl)
            obtain ⟨V13, e13, q13⟩ := hd 13 (by kernel_rfl)
            refine wanted_on (by simp [Region.wanted, yielded, putAll, Act.put, List.setIfInBounds_toArray, List.set_cons_zero, List.set_cons_succ, e8, e11, e13]) ?_
            simp only [putAll, Act.put, List.setIfInBounds_toArray, List.set_cons_zero, List.set_cons_succ, e8, e11, e13] at hK ⊢
            go_simp
            refine (HS10.out V11 V13 u q11 q13).mono ?_
            rintro e u1 ⟨rfl, hb⟩
            exact hK _ _ _ rfl (hG.trans (hb.mono hG.size)) hb rfl
          · have e8 : f 8 = (.bool true) := hd 8 (by kernel_rfl)
            have e9 : f 9 = (.bool true) := hd 9 (by kernel_rfl)
            have e14 : f 14 = (.bool true) := hd 14 (by kernel_rfl)
            refine wanted_on (by simp [Region.wanted, yielded, putAll, Act.put, List.setIfInBounds_toArray, List.set_cons_zero, List.set_cons_succ, e8, e9, e14]) ?_
            simp only [putAll, Act.put, List.setIfInBounds_toArray, List.set_cons_zero, List.set_cons_succ, e8, e9, e14] at hK ⊢
            go_simp
            exact hK _ _ _ rfl hG (Below.refl _ _) rfl
          · have e8 : f 8 = (.bool true) := hd 8 (by kernel_rfl)
            have e15 : f 15 = (.bool true) := hd 15 (by kernel_rfl)
            refine wanted_on rfl ?_
            simp only [putAll, Act.put, List.setIfInBounds_toArray, List.set_cons_zero, List.set_cons_succ, e8, e15] at hK ⊢
            go_simp
            exact hK _ _ _ rfl hG (Below.refl _ _) rfl
          · have e16 : f 16 = (.bool true) := hd 16 (by kernel_rfl)
            refine wanted_on rfl ?_
            simp only [putAll, Act.put, List.setIfInBounds_toArray, List.set_cons_zero, List.set_cons_succ, e16] at hK ⊢
            go_simp
            exact hK _ _ _ rfl hG (Below.refl _ _) rfl
          · have e17 : f 17 = (.bool true) := hd 17 (by kernel_rfl)
            refine wanted_on (by simp [Region.wanted, yielded, putAll, Act.put, List.setIfInBounds_toArray, List.set_cons_zero, List.set_cons_succ, e17]) ?_
            simp only [putAll, Act.put, List.setIfInBounds_toArray, List.set_cons_zero, List.set_cons_succ, e17] at hK ⊢
            go_simp
            exact hK _ _ _ rfl hG (Below.refl _ _) rfl
          · have e17 : f 17 = (.bool true) := hd 17 (by kernel_rfl)
            have e18 : f 18 = (.bool true) := hd 18 (by kernel_rfl)
            refine wanted_on (by simp [Region.wanted, yielded, putAll, Act.put, List.setIfInBounds_toArray, List.set_cons_zero, List.set_cons_succ, e17, e18]) ?_
            simp only [putAll, Act.put, List.setIfInBounds_toArray, List.set_cons_zero, List.set_cons_succ, e17, e18] at hK ⊢
            go_simp
            exact hK _ _ _ rfl hG (Below.refl _ _) rfl
          · have e17 : f 17 = (.bool true) := hd 17 (by kernel_rfl)
            have e19 : f 19 = (.bool false) := hd 19 (by kernel_rfl)
            refine wanted_on (by simp [Region.wanted, yielded, putAll, Act.put, List.setIfInBounds_toArray, List.set_cons_zero, List.set_cons_succ, e17, e19]) ?_
            simp only [putAll, Act.put, List.setIfInBounds_toArray, List.set_cons_zero, List.set_cons_succ, e17, e19] at hK ⊢
            go_simp
            exact hK _ _ _ rfl hG (Below.refl _ _) rfl
          · have e20 : f 20 = (.bool false) := hd 20 (by kernel_rfl)
            refine wanted_on (by simp [Region.wanted, yielded, putAll, Act.put, List.setIfInBounds_toArray, List.set_cons_zero, List.set_cons_succ, e20]) ?_
            simp only [putAll, Act.put, List.setIfInBounds_toArray, List.set_cons_zero, List.set_cons_succ, e20] at hK ⊢
            go_simp
            exact hK _ _ _ rfl hG (Below.refl _ _) rfl
          · have e20 : f 20 = (.bool false) := hd 20 (by kernel_rfl)
            have e21 : f 21 = (.bool true) := hd 21 (by kernel_rfl)
            refine wanted_on (by simp [Region.wanted, yielded, putAll, Act.put, List.setIfInBounds_toArray, List.set_cons_zero, List.set_cons_succ, e20, e21]) ?_
            simp only [putAll, Act.put, List.setIfInBounds_toArray, List.set_cons_zero, List.set_cons_succ, e20, e21] at hK ⊢
            go_simp
            exact hK _ _ _ rfl hG (Below.refl _ _) rfl
          · have e17 : f 17 = (.bool true) := hd 17 (by kernel_rfl)
            have e20 : f 20 = (.bool false) := hd 20 (by kernel_rfl)
            have e22 : f 22 = (.bool false) := hd 22 (by kernel_rfl)
            refine wanted_on (by simp [Region.wanted, yielded, putAll, Act.put, List.setIfInBounds_toArray, List.set_cons_zero, List.set_cons_succ, e17, e20, e22]) ?_
            simp only [putAll, Act.put, List.setIfInBounds_toArray, List.set_cons_zero, List.set_cons_succ, e17, e20, e22] at hK ⊢
            go_simp
            exact hK _ _ _ rfl hG (Below.refl _ _) rfl
          · have e17 : f 17 = (.bool true) := hd 17 (by kernel_rfl)
            have e23 : f 23 = (.bool false) := hd 23 (by kernel_rfl)
            refine wanted_on (by simp [Region.wanted, yielded, putAll, Act.put, List.setIfInBounds_toArray, List.set_cons_zero, List.set_cons_succ, e17, e23]) ?_
            simp only [putAll, Act.put, List.setIfInBounds_toArray, List.set_cons_zero, List.set_cons_succ, e17, e23] at hK ⊢
            go_simp
            exact hK _ _ _ rfl hG (Below.refl _ _) rfl
          · have e24 : f 24 = (.bool false) := hd 24 (by kernel_rfl)
            obtain ⟨⟨c0, c1, c2, c3⟩, _⟩ := box4 ((HB.out _ (HG1.out.trans (hG.mono HG1.out.size))).1)
            refine wanted_on (by simp [Region.wanted, yielded, putAll, Act.put, List.setIfInBounds_toArray, List.set_cons_zero, List.set_cons_succ, e24]) ?_
            simp only [putAll, Act.put, List.setIfInBounds_toArray, List.set_cons_zero, List.set_cons_succ, e24] at hK ⊢
            go_simp
            exact hK _ _ _ rfl hG (Below.refl _ _) rfl
          · have e24 : f 24 = (.bool false) := hd 24 (by kernel_rfl)
            have e25 : f 25 = (vval x0 L0) := hd 25 (by kernel_rfl)
            refine wanted_on (by simp [Region.wanted, yielded, putAll, Act.put, List.setIfInBounds_toArray, List.set_cons_zero, List.set_cons_succ, e24, e25]) ?_
            simp only [putAll, Act.put, List.setIfInBounds_toArray, List.set_cons_zero, List.set_cons_succ, e24, e25] at hK ⊢
            go_simp
            refine (HO0.out _ _ (m0.below (HB.out _ (HG1.out.trans (hG.mono HG1.out.size))).2.2.2 (Nat.le_refl _))).mono ?_
            rintro e u1 ⟨V, rfl, h1, hb⟩
            exact hK _ _ _ rfl (hG.trans (hb.mono hG.size)) hb ⟨_, rfl, h1⟩
          · have e24 : f 24 = (.bool false) := hd 24 (by kernel_rfl)
            obtain ⟨⟨c0, c1, c2, c3⟩, _⟩ := box4 ((HB.out _ (HG1.out.trans (hG.mono HG1.out.size))).2.2.1)
            refine wanted_on (by simp [Region.wanted, yielded, putAll, Act.put, List.setIfInBounds_toArray, List.set_cons_zero, List.set_cons_succ, e24]) ?_
            simp only [putAll, Act.put, List.setIfInBounds_toArray, List.set_cons_zero, List.set_cons_succ, e24] at hK ⊢
            go_simp
            exact hK _ _ _ rfl hG (Below.refl _ _) rfl
          · have e24 : f 24 = (.bool false) := hd 24 (by kernel_rfl)
            have e27 : f 27 = (vval x2 L2) := hd 27 (by kernel_rfl)
            refine wanted_on (by simp [Region.wanted, yielded, putAll, Act.put, List.setIfInBounds_toArray, List.set_cons_zero, List.set_cons_succ, e24, e27]) ?_
            simp only [putAll, Act.put, List.setIfInBounds_toArray, List.set_cons_zero, List.set_cons_succ, e24, e27] at hK ⊢
            go_simp
            refine (HO2.out _ _ (m2.below (HB.out _ (HG1.out.trans (hG.mono HG1.out.size))).2.2.2 (Nat.le_refl _))).mono ?_
            rintro e u1 ⟨V, rfl, h1, hb⟩
            exact hK _ _ _ rfl (hG.trans (hb.mono hG.size)) hb ⟨_, rfl, h1⟩
          · have e24 : f 24 = (.bool false) := hd 24 (by kernel_rfl)
            obtain ⟨V26, e26, q26⟩ := hd 26 (by kernel_rfl)
            obtain ⟨V28, e28, q28⟩ := hd 28 (by kernel_rfl)
            refine wanted_on (by simp [Region.wanted, yielded, putAll, Act.put, List.setIfInBounds_toArray, List.set_cons_zero, List.set_cons_succ, e24, e26, e28]) ?_
            simp only [putAll, Act.put, List.setIfInBounds_toArray, List.set_cons_zero, List.set_cons_succ, e24, e26, e28] at hK ⊢
            go_simp
            refine (HS02.out V26 V28 u q26 q28).mono ?_
            rintro e u1 ⟨rfl, hb⟩
            exact hK _ _ _ rfl (hG.trans (hb.mono hG.size)) hb rfl
          · have e17 : f 17 = (.bool true) := hd 17 (by kernel_rfl)
            have e24 : f 24 = (.bool false) := hd 24 (by kernel_rfl)
            have e29 : f 29 = (.bool true) := hd 29 (by kernel_rfl)
            refine wanted_on (by simp [Region.wanted, yielded, putAll, Act.put, List.setIfInBounds_toArray, List.set_cons_zero, List.set_cons_succ, e17, e24, e29]) ?_
            simp only [putAll, Act.put, List.setIfInBounds_toArray, List.set_cons_zero, List.set_cons_succ, e17, e24, e29] at hK ⊢
            go_simp
            exact hK _ _ _ rfl hG (Below.refl _ _) rfl
          · have e17 : f 17 = (.bool true) := hd 17 (by kernel_rfl)
            have e30 : f 30 = (.bool true) := hd 30 (by kernel_rfl)
            refine wanted_on rfl ?_
            simp only [putAll, Act.put, List.setIfInBounds_toArray, List.set_cons_zero, List.set_cons_succ, e17, e30] at hK ⊢
            go_simp
            exact hK _ _ _ rfl hG (Below.refl _ _) rfl
          · have e31 : f 31 = (.bool true) := hd 31 (by kernel_rfl)
            refine wanted_on rfl ?_
            simp only [putAll, Act.put, List.setIfInBounds_toArray, List.set_cons_zero, List.set_cons_succ, e31] at hK ⊢
            go_simp
            exact hK _ _ _ rfl hG (Below.refl _ _) rfl
        · intro f2 u2 hG hf
          have HBB : Hid _ := (HB.out _ (HG1.out.trans (hG.mono HG1.out.size))).2.2.2
          have e32 : f2 32 = .bool true := hf 32 (by decide)
          simp only [putAll, Act.put, List.setIfInBounds_toArray, List.set_cons_zero, List.set_cons_succ, e32]
          clear hf e32 hG
          go_wp2_with fail
          go_ret
          exact ⟨rfl, HBB.out⟩

theorem contract (H : Type) (enc : TypeId × Value → H) (W : World) (base : Nat) (args : Array Value) (ds gs : List (DataW H)) (before : List MemPlace)
    (hval : ∀ (j : Nat) t v, Tryd.f4.params[j]? = some t → args[j]? = some v → Value.okWide Tryd.prog W .any base t v)
    (hW : DataW.Whole enc Tryd.prog Tryd.f4.params.toList Rows.valueAlikeSpec.vars false W args.toList ds gs before)
    (hsz : (DataW.weightsEach Tryd.prog (Tryd.f4.params.toList ++ (OpenSpec.ofChange Rows.valueAlikeSpec).bare.plain.varTypes Tryd.prog) (ds ++ gs)).all (· ≤ reachBytes) = true) (hL : laidMetH Tryd.prog Rows.valueAlikeRow.laid W) :
    Calls Tryd.prog 4 args W fun e W' => ∃ v, e = .returned v ∧ Rows.valueAlikeSpec.post enc Tryd.prog Tryd.f4 false true false false W args v W' := by
  have hW' := hW
  obtain ⟨p, q, hA0, hV, rfl, hfz, hnd⟩ := hW
  have hA : DataW.TrodAll enc Tryd.prog W 0 (fun _ => true) true Tryd.f4.params.toList args.toList ds p := hA0
  rw [Tryd.params4] at hA hval hsz
  obtain ⟨v0, vs0, d0, ds0, p0, q0, hargs, rfl, rfl, h0, r0⟩ := trodAll_cons hA
  obtain ⟨v1, vs1, d1, ds1, p1, q1, rfl, rfl, rfl, h1, r1⟩ := trodAll_cons r0
  obtain ⟨v2, vs2, d2, ds2, p2, q2, rfl, rfl, rfl, h2, r2⟩ := trodAll_cons r1
  obtain ⟨rfl, rfl, rfl⟩ := trodAll_nil r2
  obtain rfl : args = #[v0, v1, v2] := by cases args; simp_all
  obtain ⟨rfl, rfl⟩ := trodVars_none hV
  obtain ⟨x0, L0, rfl, i0, m0⟩ := vcame_of (j := 0) (hval 0 24 v0 rfl rfl) h0 hsz rfl rfl
  obtain ⟨x1, L1, rfl, i1, m1⟩ := vcame_of (j := 1) (hval 1 24 v1 rfl rfl) h1 hsz rfl rfl
  obtain ⟨x2, L2, rfl, i2, m2⟩ := vcame_of (j := 2) (hval 2 24 v2 rfl rfl) h2 hsz rfl rfl
  clear hA0
  simp only [List.append_nil] at hW'
  have hlt0 : ∀ x ∈ p0, x.block < W.heap.size := fun x hx => hW'.lt x (by simp [hx])
  have hlt1 : ∀ x ∈ p1, x.block < W.heap.size := fun x hx => hW'.lt x (by simp [hx])
  have hlt2 : ∀ x ∈ p2, x.block < W.heap.size := fun x hx => hW'.lt x (by simp [hx])
  refine (walk x0 L0 x1 L1 x2 L2 W i0 m0 i1 m1 i2 m2  (pow_of hL)).mono fun e W' ⟨he, bel⟩ => ?_
  subst he
  exact ⟨_, rfl, _, _, _, [], p0 ++ (p1 ++ (p2 ++ [])), [], hW', trodAll_mk1 (shut_bool Tryd.underlying4 _), (trodAll_cons_mk (Below.trod (by kernel_rfl) (by kernel_rfl) (of_decide_eq_true (by kernel_rfl)) h0 bel hlt0) (trodAll_cons_mk (Below.trod (by kernel_rfl) (by kernel_rfl) (of_decide_eq_true (by kernel_rfl)) h1 bel hlt1) (trodAll_cons_mk (Below.trod (by kernel_rfl) (by kernel_rfl) (of_decide_eq_true (by kernel_rfl)) h2 bel hlt2) trodAll_mk0))), rfl, bel.frame _, fun h => by cases h⟩

noncomputable def low : Nat := (World.holding Tryd.prog default ⟨#[], #[], []⟩).heap.size
noncomputable def laidWorld (os : Os) : World :=
  let w0 := World.holding Tryd.prog os ⟨#[], #[], []⟩
  { w0 with heap := (((w0.heap.modify 1 fun
      | .cells _ t frozen => .cells #[.int .u64 1, .int .u64 10, .int .u64 100, .int .u64 1000, .int .u64 10000, .int .u64 100000, .int .u64 1000000, .int .u64 10000000, .int .u64 100000000, .int .u64 1000000000, .int .u64 10000000000, .int .u64 100000000000, .int .u64 1000000000000, .int .u64 10000000000000, .int .u64 100000000000000, .int .u64 1000000000000000, .int .u64 10000000000000000, .int .u64 100000000000000000, .int .u64 1000000000000000000, .int .u64 10000000000000000000] t frozen
      | o => o).modify 2 fun
      | .cells _ t frozen => .cells #[.int .u8 0, .int .u8 1, .int .u8 28, .int .u8 2, .int .u8 29, .int .u8 14, .int .u8 24, .int .u8 3, .int .u8 30, .int .u8 22, .int .u8 20, .int .u8 15, .int .u8 25, .int .u8 17, .int .u8 4, .int .u8 8, .int .u8 31, .int .u8 27, .int .u8 13, .int .u8 23, .int .u8 21, .int .u8 19, .int .u8 16, .int .u8 7, .int .u8 26, .int .u8 12, .int .u8 18, .int .u8 6, .int .u8 11, .int .u8 5, .int .u8 10, .int .u8 9] t frozen
      | o => o).modify 3 fun
      | .cells _ t frozen => .cells #[.int .u8 0, .int .u8 1, .int .u8 56, .int .u8 2, .int .u8 57, .int .u8 49, .int .u8 28, .int .u8 3, .int .u8 61, .int .u8 58, .int .u8 42, .int .u8 50, .int .u8 38, .int .u8 29, .int .u8 17, .int .u8 4, .int .u8 62, .int .u8 47, .int .u8 59, .int .u8 36, .int .u8 45, .int .u8 43, .int .u8 51, .int .u8 22, .int .u8 53, .int .u8 39, .int .u8 33, .int .u8 30, .int .u8 24, .int .u8 18, .int .u8 12, .int .u8 5, .int .u8 63, .int .u8 55, .int .u8 48, .int .u8 27, .int .u8 60, .int .u8 41, .int .u8 37, .int .u8 16, .int .u8 46, .int .u8 35, .int .u8 44, .int .u8 21, .int .u8 52, .int .u8 32, .int .u8 23, .int .u8 11, .int .u8 54, .int .u8 26, .int .u8 40, .int .u8 15, .int .u8 34, .int .u8 20, .int .u8 31, .int .u8 10, .int .u8 25, .int .u8 14, .int .u8 19, .int .u8 9, .int .u8 13, .int .u8 8, .int .u8 7, .int .u8 6] t frozen
      | o => o) }
theorem laid_met (os : Os) : laidMet Tryd.prog Rows.valueAlikeRow.laid ((laidWorld os).forCall (fun _ _ => 0) ⟨#[], #[.agg #[.int .i64 0, .int .i64 0, .string ByteArray.empty, .slice none 0 0], .agg #[.int .i64 0, .int .i64 0, .string ByteArray.empty, .slice none 0 0], .agg #[.int .i64 0, .int .i64 0, .string ByteArray.empty, .slice none 0 0]], []⟩).memory :=
  laidMet_of_run' 8 (by kernel_rfl) (by kernel_rfl)
theorem reads (os : Os) {H : Type} (enc : TypeId × Value → H) : ∃ places, DataW.whole enc Tryd.prog ((laidWorld os).forCall (fun _ _ => 0) ⟨#[], #[.agg #[.int .i64 0, .int .i64 0, .string ByteArray.empty, .slice none 0 0], .agg #[.int .i64 0, .int .i64 0, .string ByteArray.empty, .slice none 0 0], .agg #[.int .i64 0, .int .i64 0, .string ByteArray.empty, .slice none 0 0]], []⟩).memory Tryd.f4.params.toList Rows.valueAlikeSpec.vars false #[Value.agg #[.int .i64 0, .int .i64 0, .string ByteArray.empty, .slice none 0 0], Value.agg #[.int .i64 0, .int .i64 0, .string ByteArray.empty, .slice none 0 0], Value.agg #[.int .i64 0, .int .i64 0, .string ByteArray.empty, .slice none 0 0]].toList 8 = some ([.agg [.lit (.int .i64 0), .lit (.int .i64 0), .lit (.string []), .nil], .agg [.lit (.int .i64 0), .lit (.int .i64 0), .lit (.string []), .nil], .agg [.lit (.int .i64 0), .lit (.int .i64 0), .lit (.string []), .nil]], [], places) :=
  ⟨[], by kernel_rfl⟩

set_option maxRecDepth 100000 in
theorem lifted (os : Os) (started : os.Started) (H : Type) (enc : TypeId × Value → H) (F : Stop.Interp) :
    ReturnsInHanded {} Tryd.checked os 4 .any ((OpenSpec.ofChange Rows.valueAlikeSpec).preRow enc Tryd.prog Tryd.f4 Rows.valueAlikeRow.domain false Rows.valueAlikeRow.laid) (((OpenSpec.ofChange Rows.valueAlikeSpec).at F).post enc Tryd.prog Tryd.f4 false true false false) := by
  obtain ⟨places, hx⟩ := reads os enc
  refine returnsInHanded_of_row (C := Tryd.checked) (s := OpenSpec.ofChange Rows.valueAlikeSpec) own started (by kernel_rfl) Tryd.func4
    (witness_row_at (enc := enc) (C := Tryd.checked) false (laidWorld os) #[.agg #[.int .i64 0, .int .i64 0, .string ByteArray.empty, .slice none 0 0], .agg #[.int .i64 0, .int .i64 0, .string ByteArray.empty, .slice none 0 0], .agg #[.int .i64 0, .int .i64 0, .string ByteArray.empty, .slice none 0 0]] rfl (by kernel_rfl) (by kernel_rfl) (by kernel_rfl)
      (OpenSpec.preRow_of_cond 8 hx (by kernel_rfl) (fun k hk => by cases hk) (by kernel_rfl) (laid_met os))) ?_
  intro W base args ds gs before hval hW _ _ hsz hL _ _
  exact contract H enc W base args ds gs before hval hW hsz hL

theorem said : Rows.ValueAlikeSaid :=
  OpenClaim.holds_of_cond 4 Tryd.f4 rfl rfl rfl rfl rfl rfl rfl ⟨rfl, rfl, rfl, rfl, rfl⟩ rfl rfl rfl rfl rfl (by kernel_rfl) Tryd.func4 (by kernel_rfl)
    (of_decide_eq_true (by kernel_rfl)) (by unfold Func.isWrapper; first | (rw [if_pos (by decide +kernel)]; kernel_rfl) | (rw [if_neg (by decide +kernel)]; exact ⟨rfl, rfl⟩))
    (fun os started H enc _ F => by rw [OpenClaim.pre_eq_preRow]; exact lifted os started H enc F)

theorem plain (f : FuncId) (fn : Func) (hf : Tryd.pinned.checked.prog.funcNamed "panicroad/panicroadkeep.ValueAlike" = some f) (hfn : Tryd.pinned.checked.prog.funcs[f]? = some fn) :
    false = Tryd.pinned.checked.prog.looks [] ∧ ∀ (j : Nat) t, fn.params[j]? = some t → Tryd.pinned.checked.prog.wantsStandIn t = false := by
  obtain rfl : f = 4 := Option.some.inj ((show Tryd.prog.funcNamed "panicroad/panicroadkeep.ValueAlike" = some 4 by kernel_rfl).symm.trans hf) |>.symm
  obtain rfl : fn = Tryd.f4 := (Option.some.inj (Tryd.func4.symm.trans hfn)).symm
  refine ⟨by kernel_rfl, fun j t ht => ?_⟩
  rw [Tryd.params4] at ht
  have hm := Array.mem_of_getElem? ht
  simp at hm
  subst hm
  exact (show Tryd.prog.wantsStandIn 24 = false by kernel_rfl)

theorem card : Rows.ValueAlikeCardSaid :=
  Claim7.holds_tied_plain_at .later [] _ _ _ _ said (fun _ h => by cases h) (by kernel_rfl) (fun _ h => by cases h) valueAlike_row_tie rfl ⟨rfl, rfl⟩ (by kernel_rfl) rfl plain (by kernel_rfl)
#print axioms card
end Go.Proofs.YtjfmhppgjhgdaabDoor.valueAlike
