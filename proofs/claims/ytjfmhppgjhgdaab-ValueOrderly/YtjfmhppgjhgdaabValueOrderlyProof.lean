/-
  For all values a, b, c that come in, the order is antisymmetric, total within numbers and within texts, says the same just where Same does, and is transitive: the law's function returns true.
-/
import Derived.Test.YtjfmhppgjhgdaabVordp
import Derived.Test.YtjfmhppgjhgdaabVcame
namespace Go.Proofs.Ytjfmhppgjhgdaab.valueOrderly
open Go.ChangeShapes Go.WideShapes Go.ChangeAt Go.RowKit
open Go.WideMaps Go.WideElems
open Go.ChangeMaps (open_string shut_string)
set_option linter.unusedVariables false
set_option maxRecDepth 100000

theorem own : ownKnob Try.prog.godebug = none := by kernel_rfl

set_option maxHeartbeats 8000000 in
theorem walk (x0 : Vv) (L0 : Value) (x1 : Vv) (L1 : Value) (x2 : Vv) (L2 : Value) (w : World) (i0 : VIn x0) (m0 : ILies w L0 x0.l) (i1 : VIn x1) (m1 : ILies w L1 x1.l) (i2 : VIn x2) (m2 : ILies w L2 x2.l)   :
    Calls Try.prog 3 #[vval x0 L0, vval x1 L1, vval x2 L2] w fun e w' => e = .returned (.bool true) ∧ Below w.heap.size w w' := by
  have HO0 : Hid (∀ (L : Value) (u : World), ILies u L x0.l → Calls Try.prog 5 #[vval x0 L] u fun e w' => ∃ L', e = .returned (vval x0 L') ∧ ILies w' L' x0.l ∧ Below u.heap.size u w') := fun L u h => own_own x0 L u i0 h
  have HO1 : Hid (∀ (L : Value) (u : World), ILies u L x1.l → Calls Try.prog 5 #[vval x1 L] u fun e w' => ∃ L', e = .returned (vval x1 L') ∧ ILies w' L' x1.l ∧ Below u.heap.size u w') := fun L u h => own_own x1 L u i1 h
  have HO2 : Hid (∀ (L : Value) (u : World), ILies u L x2.l → Calls Try.prog 5 #[vval x2 L] u fun e w' => ∃ L', e = .returned (vval x2 L') ∧ ILies w' L' x2.l ∧ Below u.heap.size u w') := fun L u h => own_own x2 L u i2 h
  have HB : Hid (∀ u, Below (((w.alloc (.cells #[.int .i64 x0.kind, .int .i64 x0.n, .string x0.s, L0] 24)).alloc (.cells #[.int .i64 x1.kind, .int .i64 x1.n, .string x1.s, L1] 24)).alloc (.cells #[.int .i64 x2.kind, .int .i64 x2.n, .string x2.s, L2] 24)).heap.size (((w.alloc (.cells #[.int .i64 x0.kind, .int .i64 x0.n, .string x0.s, L0] 24)).alloc (.cells #[.int .i64 x1.kind, .int .i64 x1.n, .string x1.s, L1] 24)).alloc (.cells #[.int .i64 x2.kind, .int .i64 x2.n, .string x2.s, L2] 24)) u → u.heap[w.heap.size]? = some (.cells #[.int .i64 x0.kind, .int .i64 x0.n, .string x0.s, L0] 24) ∧ u.heap[w.heap.size + 1]? = some (.cells #[.int .i64 x1.kind, .int .i64 x1.n, .string x1.s, L1] 24) ∧ u.heap[w.heap.size + 2]? = some (.cells #[.int .i64 x2.kind, .int .i64 x2.n, .string x2.s, L2] 24) ∧ Below w.heap.size w u) := fun u h => ⟨(three_boxes h).1, (three_boxes h).2.1, (three_boxes h).2.2.1, (three_boxes h).2.2.2.2⟩
  have HX : Hid (∃ r01 e01 r12 e12 r02 e02, ordN x0 x1 = r01 ∧ ordE x0 x1 = e01 ∧ ordN x1 x2 = r12 ∧ ordE x1 x2 = e12 ∧ ordN x0 x2 = r02 ∧ ordE x0 x2 = e02) := ⟨_, _, _, _, _, _, rfl, rfl, rfl, rfl, rfl, rfl⟩
  obtain ⟨r01, e01, r12, e12, r02, e02, h01, g01, h12, g12, h02, g02⟩ := HX.out
  clear HX
  have HV01 : Hid (∀ V V' u, Calls Try.prog 4 #[vval x0 V, vval x1 V'] u fun e w' => e = .returned (.tuple #[.int .i64 r01, .int .i64 e01]) ∧ Below u.heap.size u w') := fun V V' u => by rw [← h01, ← g01]; exact own_order x0 x1 V V' u
  have HV10 : Hid (∀ V V' u, Calls Try.prog 4 #[vval x1 V, vval x0 V'] u fun e w' => e = .returned (.tuple #[.int .i64 (-r01), .int .i64 e01]) ∧ Below u.heap.size u w') := fun V V' u => by rw [← h01, ← g01, ← (ord_back x0 x1).1, ← (ord_back x0 x1).2]; exact own_order x1 x0 V V' u
  have HV12 : Hid (∀ V V' u, Calls Try.prog 4 #[vval x1 V, vval x2 V'] u fun e w' => e = .returned (.tuple #[.int .i64 r12, .int .i64 e12]) ∧ Below u.heap.size u w') := fun V V' u => by rw [← h12, ← g12]; exact own_order x1 x2 V V' u
  have HV02 : Hid (∀ V V' u, Calls Try.prog 4 #[vval x0 V, vval x2 V'] u fun e w' => e = .returned (.tuple #[.int .i64 r02, .int .i64 e02]) ∧ Below u.heap.size u w') := fun V V' u => by rw [← h02, ← g02]; exact own_order x0 x2 V V' u
  have HC01 : Hid ((e01 ≠ 0 ∧ r01 = 0) ∨ (e01 = 0 ∧ (r01 = -1 ∨ r01 = 0 ∨ r01 = 1))) := by rw [← h01, ← g01]; exact ord_cases x0 x1
  have HC12 : Hid ((e12 ≠ 0 ∧ r12 = 0) ∨ (e12 = 0 ∧ (r12 = -1 ∨ r12 = 0 ∨ r12 = 1))) := by rw [← h12, ← g12]; exact ord_cases x1 x2
  have HC02 : Hid ((e02 ≠ 0 ∧ r02 = 0) ∨ (e02 = 0 ∧ (r02 = -1 ∨ r02 = 0 ∨ r02 = 1))) := by rw [← h02, ← g02]; exact ord_cases x0 x2
  have HT : Hid (e01 = 0 → e12 = 0 → r01 ≤ 0 → r12 ≤ 0 → e02 = 0 ∧ r02 ≤ 0 ∧ (r02 = 0 ↔ r01 = 0 ∧ r12 = 0)) := by rw [← h01, ← g01, ← h12, ← g12, ← h02, ← g02]; exact ord_trans x0 x1 x2
  have HSM : Hid (∀ V V' u, e01 = 0 → ILies u V x0.l → ILies u V' x1.l → Calls Try.prog 6 #[vval x0 V, vval x1 V'] u fun e w' => e = .returned (.bool (decide (r01 = 0))) ∧ Below u.heap.size u w') := fun V V' u h0 h1 h2 => by
    have h := own_same x0 x1 V V' u i0 i1 h1 h2
    rwa [ord_same x0 x1 (g01.trans h0), h01] at h
  have HZ : Hid (∀ u, Calls Try.prog 4 #[.agg #[.int .i64 3, .int .i64 0, .string ⟨#[]⟩, .slice none 0 0], .agg #[.int .i64 3, .int .i64 0, .string ⟨#[97]⟩, .slice none 0 0]] u fun e w' => e = .returned (.tuple #[.int .i64 (-1), .int .i64 0]) ∧ Below u.heap.size u w') := fun u => own_order ⟨3, 0, ⟨#[]⟩, []⟩ ⟨3, 0, ⟨#[97]⟩, []⟩ (.slice none 0 0) (.slice none 0 0) u
  clear h01 g01 h12 g12 h02 g02
  unfold vval
  go_enter Try.func3, Try.ntmps3
  go_wp2_with fail
  refine wp_grow [isV (vval x0 L0), isVal x0, isV (vval x1 L1), isVal x1, isV (.tuple #[.int .i64 r01, .int .i64 e01]), isV (.tuple #[.int .i64 r01, .int .i64 e01]), isV (.int .i64 r01), isV (.int .i64 e01), isV (.int .i64 r01), isV (.int .i64 e01)]
    ⟨stab_is _, stab_val _, stab_is _, stab_val _, stab_is _, stab_is _, stab_is _, stab_is _, stab_is _, stab_is _, trivial⟩ (by kernel_rfl) (by kernel_rfl) (by kernel_rfl) ?_ ?_
  · refine stepsOK_cons (fun f u hG hd K hK => ?_) (stepsOK_cons (fun f u hG hd K hK => ?_) (stepsOK_cons (fun f u hG hd K hK => ?_) (stepsOK_cons (fun f u hG hd K hK => ?_) (stepsOK_cons (fun f u hG hd K hK => ?_) (stepsOK_cons (fun f u hG hd K hK => ?_) (stepsOK_cons (fun f u hG hd K hK => ?_) (stepsOK_cons (fun f u hG hd K hK => ?_) (stepsOK_cons (fun f u hG hd K hK => ?_) (stepsOK_cons (fun f u hG hd K hK => ?_) stepsOK_nil)))))))))
    · obtain ⟨⟨c0, c1, c2, c3⟩, _⟩ := box4 ((HB.out _ hG).1)
      refine wanted_on rfl ?_
      simp only [putAll, Act.put, List.setIfInBounds_toArray, List.set_cons_zero, List.set_cons_succ] at hK ⊢
      go_simp
      exact hK _ _ _ rfl hG (Below.refl _ _) rfl
    · have e0 : f 0 = (vval x0 L0) := hd 0 (by kernel_rfl)
      refine wanted_on rfl ?_
      simp only [putAll, Act.put, List.setIfInBounds_toArray, List.set_cons_zero, List.set_cons_succ, e0] at hK ⊢
      go_simp
      refine (HO0.out _ _ (m0.below (HB.out _ hG).2.2.2 (Nat.le_refl _))).mono ?_
      rintro e u1 ⟨V, rfl, h1, hb⟩
      exact hK _ _ _ rfl (hG.trans (hb.mono hG.size)) hb ⟨_, rfl, h1⟩
    · obtain ⟨⟨c0, c1, c2, c3⟩, _⟩ := box4 ((HB.out _ hG).2.1)
      refine wanted_on rfl ?_
      simp only [putAll, Act.put, List.setIfInBounds_toArray, List.set_cons_zero, List.set_cons_succ] at hK ⊢
      go_simp
      exact hK _ _ _ rfl hG (Below.refl _ _) rfl
    · have e2 : f 2 = (vval x1 L1) := hd 2 (by kernel_rfl)
      refine wanted_on rfl ?_
      simp only [putAll, Act.put, List.setIfInBounds_toArray, List.set_cons_zero, List.set_cons_succ, e2] at hK ⊢
      go_simp
      refine (HO1.out _ _ (m1.below (HB.out _ hG).2.2.2 (Nat.le_refl _))).mono ?_
      rintro e u1 ⟨V, rfl, h1, hb⟩
      exact hK _ _ _ rfl (hG.trans (hb.mono hG.size)) hb ⟨_, rfl, h1⟩
    · obtain ⟨V1, e1, q1⟩ := hd 1 (by kernel_rfl)
      obtain ⟨V3, e3, q3⟩ := hd 3 (by kernel_rfl)
      refine wanted_on rfl ?_
      simp only [putAll, Act.put, List.setIfInBounds_toArray, List.set_cons_zero, List.set_cons_succ, e1, e3] at hK ⊢
      go_simp
      refine (HV01.out V1 V3 u).mono ?_
      rintro e u1 ⟨rfl, hb⟩
      exact hK _ _ _ rfl (hG.trans (hb.mono hG.size)) hb rfl
    · have e4 : f 4 = (.tuple #[.int .i64 r01, .int .i64 e01]) := hd 4 (by kernel_rfl)
      refine wanted_on rfl ?_
      simp only [putAll, Act.put, List.setIfInBounds_toArray, List.set_cons_zero, List.set_cons_succ, e4] at hK ⊢
      go_simp
      exact hK _ _ _ rfl hG (Below.refl _ _) rfl
    · have e5 : f 5 = (.tuple #[.int .i64 r01, .int .i64 e01]) := hd 5 (by kernel_rfl)
      refine wanted_on rfl ?_
      simp only [putAll, Act.put, List.setIfInBounds_toArray, List.set_cons_zero, List.set_cons_succ, e5] at hK ⊢
      go_simp
      exact hK _ _ _ rfl hG (Below.refl _ _) rfl
    · have e5 : f 5 = (.tuple #[.int .i64 r01, .int .i64 e01]) := hd 5 (by kernel_rfl)
      refine wanted_on rfl ?_
      simp only [putAll, Act.put, List.setIfInBounds_toArray, List.set_cons_zero, List.set_cons_succ, e5] at hK ⊢
      go_simp
      exact hK _ _ _ rfl hG (Below.refl _ _) rfl
    · have e6 : f 6 = (.int .i64 r01) := hd 6 (by kernel_rfl)
      refine wanted_on rfl ?_
      simp only [putAll, Act.put, List.setIfInBounds_toArray, List.set_cons_zero, List.set_cons_succ, e6] at hK ⊢
      go_simp
      exact hK _ _ _ rfl hG (Below.refl _ _) rfl
    · have e7 : f 7 = (.int .i64 e01) := hd 7 (by kernel_rfl)
      refine wanted_on rfl ?_
      simp only [putAll, Act.put, List.setIfInBounds_toArray, List.set_cons_zero, List.set_cons_succ, e7] at hK ⊢
      go_simp
      exact hK _ _ _ rfl hG (Below.refl _ _) rfl
  · intro f1 u1 hG hf
    have HG1 : Hid (Below (((w.alloc (.cells #[.int .i64 x0.kind, .int .i64 x0.n, .string x0.s, L0] 24)).alloc (.cells #[.int .i64 x1.kind, .int .i64 x1.n, .string x1.s, L1] 24)).alloc (.cells #[.int .i64 x2.kind, .int .i64 x2.n, .string x2.s, L2] 24)).heap.size (((w.alloc (.cells #[.int .i64 x0.kind, .int .i64 x0.n, .string x0.s, L0] 24)).alloc (.cells #[.int .i64 x1.kind, .int .i64 x1.n, .string x1.s, L1] 24)).alloc (.cells #[.int .i64 x2.kind, .int .i64 x2.n, .string x2.s, L2] 24)) u1) := hG
    have e8 : f1 8 = .int .i64 r01 := hf 8 (by decide)
    have e9 : f1 9 = .int .i64 e01 := hf 9 (by decide)
    simp only [putAll, Act.put, List.setIfInBounds_toArray, List.set_cons_zero, List.set_cons_succ, e8, e9]
    clear hf e8 e9 hG
    go_wp2_with fail
    refine wp_grow [isV (vval x1 L1), isVal x1, isV (vval x0 L0), isVal x0, isV (.tuple #[.int .i64 (-r01), .int .i64 e01]), isV (.tuple #[.int .i64 (-r01), .int .i64 e01]), isV (.int .i64 (-r01)), isV (.int .i64 e01), isV (.int .i64 (-r01)), isV (.int .i64 e01)]
      ⟨stab_is _, stab_val _, stab_is _, stab_val _, stab_is _, stab_is _, stab_is _, stab_is _, stab_is _, stab_is _, trivial⟩ (by kernel_rfl) (by kernel_rfl) (by kernel_rfl) ?_ ?_
    · refine stepsOK_cons (fun f u hG hd K hK => ?_) (stepsOK_cons (fun f u hG hd K hK => ?_) (stepsOK_cons (fun f u hG hd K hK => ?_) (stepsOK_cons (fun f u hG hd K hK => ?_) (stepsOK_cons (fun f u hG hd K hK => ?_) (stepsOK_cons (fun f u hG hd K hK => ?_) (stepsOK_cons (fun f u hG hd K hK => ?_) (stepsOK_cons (fun f u hG hd K hK => ?_) (stepsOK_cons (fun f u hG hd K hK => ?_) (stepsOK_cons (fun f u hG hd K hK => ?_) stepsOK_nil)))))))))
      · obtain ⟨⟨c0, c1, c2, c3⟩, _⟩ := box4 ((HB.out _ (HG1.out.trans (hG.mono HG1.out.size))).2.1)
        refine wanted_on rfl ?_
        simp only [putAll, Act.put, List.setIfInBounds_toArray, List.set_cons_zero, List.set_cons_succ] at hK ⊢
        go_simp
        exact hK _ _ _ rfl hG (Below.refl _ _) rfl
      · have e0 : f 0 = (vval x1 L1) := hd 0 (by kernel_rfl)
        refine wanted_on rfl ?_
        simp only [putAll, Act.put, List.setIfInBounds_toArray, List.set_cons_zero, List.set_cons_succ, e0] at hK ⊢
        go_simp
        refine (HO1.out _ _ (m1.below (HB.out _ (HG1.out.trans (hG.mono HG1.out.size))).2.2.2 (Nat.le_refl _))).mono ?_
        rintro e u1 ⟨V, rfl, h1, hb⟩
        exact hK _ _ _ rfl (hG.trans (hb.mono hG.size)) hb ⟨_, rfl, h1⟩
      · obtain ⟨⟨c0, c1, c2, c3⟩, _⟩ := box4 ((HB.out _ (HG1.out.trans (hG.mono HG1.out.size))).1)
        refine wanted_on rfl ?_
        simp only [putAll, Act.put, List.setIfInBounds_toArray, List.set_cons_zero, List.set_cons_succ] at hK ⊢
        go_simp
        exact hK _ _ _ rfl hG (Below.refl _ _) rfl
      · have e2 : f 2 = (vval x0 L0) := hd 2 (by kernel_rfl)
        refine wanted_on rfl ?_
        simp only [putAll, Act.put, List.setIfInBounds_toArray, List.set_cons_zero, List.set_cons_succ, e2] at hK ⊢
        go_simp
        refine (HO0.out _ _ (m0.below (HB.out _ (HG1.out.trans (hG.mono HG1.out.size))).2.2.2 (Nat.le_refl _))).mono ?_
        rintro e u1 ⟨V, rfl, h1, hb⟩
        exact hK _ _ _ rfl (hG.trans (hb.mono hG.size)) hb ⟨_, rfl, h1⟩
      · obtain ⟨V1, e1, q1⟩ := hd 1 (by kernel_rfl)
        obtain ⟨V3, e3, q3⟩ := hd 3 (by kernel_rfl)
        refine wanted_on rfl ?_
        simp only [putAll, Act.put, List.setIfInBounds_toArray, List.set_cons_zero, List.set_cons_succ, e1, e3] at hK ⊢
        go_simp
        refine (HV10.out V1 V3 u).mono ?_
        rintro e u1 ⟨rfl, hb⟩
        exact hK _ _ _ rfl (hG.trans (hb.mono hG.size)) hb rfl
      · have e4 : f 4 = (.tuple #[.int .i64 (-r01), .int .i64 e01]) := hd 4 (by kernel_rfl)
        refine wanted_on rfl ?_
        simp only [putAll, Act.put, List.setIfInBounds_toArray, List.set_cons_zero, List.set_cons_succ, e4] at hK ⊢
        go_simp
        exact hK _ _ _ rfl hG (Below.refl _ _) rfl
      · have e5 : f 5 = (.tuple #[.int .i64 (-r01), .int .i64 e01]) := hd 5 (by kernel_rfl)
        refine wanted_on rfl ?_
        simp only [putAll, Act.put, List.setIfInBounds_toArray, List.set_cons_zero, List.set_cons_succ, e5] at hK ⊢
        go_simp
        exact hK _ _ _ rfl hG (Below.refl _ _) rfl
      · have e5 : f 5 = (.tuple #[.int .i64 (-r01), .int .i64 e01]) := hd 5 (by kernel_rfl)
        refine wanted_on rfl ?_
        simp only [putAll, Act.put, List.setIfInBounds_toArray, List.set_cons_zero, List.set_cons_succ, e5] at hK ⊢
        go_simp
        exact hK _ _ _ rfl hG (Below.refl _ _) rfl
      · have e6 : f 6 = (.int .i64 (-r01)) := hd 6 (by kernel_rfl)
        refine wanted_on rfl ?_
        simp only [putAll, Act.put, List.setIfInBounds_toArray, List.set_cons_zero, List.set_cons_succ, e6] at hK ⊢
        go_simp
        exact hK _ _ _ rfl hG (Below.refl _ _) rfl
      · have e7 : f 7 = (.int .i64 e01) := hd 7 (by kernel_rfl)
        refine wanted_on rfl ?_
        simp only [putAll, Act.put, List.setIfInBounds_toArray, List.set_cons_zero, List.set_cons_succ, e7] at hK ⊢
        go_simp
        exact hK _ _ _ rfl hG (Below.refl _ _) rfl
    · intro f2 u2 hG hf
      have HG2 : Hid (Below (((w.alloc (.cells #[.int .i64 x0.kind, .int .i64 x0.n, .string x0.s, L0] 24)).alloc (.cells #[.int .i64 x1.kind, .int .i64 x1.n, .string x1.s, L1] 24)).alloc (.cells #[.int .i64 x2.kind, .int .i64 x2.n, .string x2.s, L2] 24)).heap.size (((w.alloc (.cells #[.int .i64 x0.kind, .int .i64 x0.n, .string x0.s, L0] 24)).alloc (.cells #[.int .i64 x1.kind, .int .i64 x1.n, .string x1.s, L1] 24)).alloc (.cells #[.int .i64 x2.kind, .int .i64 x2.n, .string x2.s, L2] 24)) u2) := (HG1.out.trans (hG.mono HG1.out.size))
      have e8 : f2 8 = .int .i64 (-r01) := hf 8 (by decide)
      have e9 : f2 9 = .int .i64 e01 := hf 9 (by decide)
      simp only [putAll, Act.put, List.setIfInBounds_toArray, List.set_cons_zero, List.set_cons_succ, e8, e9]
      clear hf e8 e9 hG
      go_wp2_with fail
      refine wp_grow [isV (vval x1 L1), isVal x1, isV (vval x2 L2), isVal x2, isV (.tuple #[.int .i64 r12, .int .i64 e12]), isV (.tuple #[.int .i64 r12, .int .i64 e12]), isV (.int .i64 r12), isV (.int .i64 e12), isV (.int .i64 r12), isV (.int .i64 e12)]
        ⟨stab_is _, stab_val _, stab_is _, stab_val _, stab_is _, stab_is _, stab_is _, stab_is _, stab_is _, stab_is _, trivial⟩ (by kernel_rfl) (by kernel_rfl) (by kernel_rfl) ?_ ?_
      · refine stepsOK_cons (fun f u hG hd K hK => ?_) (stepsOK_cons (fun f u hG hd K hK => ?_) (stepsOK_cons (fun f u hG hd K hK => ?_) (stepsOK_cons (fun f u hG hd K hK => ?_) (stepsOK_cons (fun f u hG hd K hK => ?_) (stepsOK_cons (fun f u hG hd K hK => ?_) (stepsOK_cons (fun f u hG hd K hK => ?_) (stepsOK_cons (fun f u hG hd K hK => ?_) (stepsOK_cons (fun f u hG hd K hK => ?_) (stepsOK_cons (fun f u hG hd K hK => ?_) stepsOK_nil)))))))))
        · obtain ⟨⟨c0, c1, c2, c3⟩, _⟩ := box4 ((HB.out _ (HG2.out.trans (hG.mono HG2.out.size))).2.1)
          refine wanted_on rfl ?_
          simp only [putAll, Act.put, List.setIfInBounds_toArray, List.set_cons_zero, List.set_cons_succ] at hK ⊢
          go_simp
          exact hK _ _ _ rfl hG (Below.refl _ _) rfl
        · have e0 : f 0 = (vval x1 L1) := hd 0 (by kernel_rfl)
          refine wanted_on rfl ?_
          simp only [putAll, Act.put, List.setIfInBounds_toArray, List.set_cons_zero, List.set_cons_succ, e0] at hK ⊢
          go_simp
          refine (HO1.out _ _ (m1.below (HB.out _ (HG2.out.trans (hG.mono HG2.out.size))).2.2.2 (Nat.le_refl _))).mono ?_
          rintro e u1 ⟨V, rfl, h1, hb⟩
          exact hK _ _ _ rfl (hG.trans (hb.mono hG.size)) hb ⟨_, rfl, h1⟩
        · obtain ⟨⟨c0, c1, c2, c3⟩, _⟩ := box4 ((HB.out _ (HG2.out.trans (hG.mono HG2.out.size))).2.2.1)
          refine wanted_on rfl ?_
          simp only [putAll, Act.put, List.setIfInBounds_toArray, List.set_cons_zero, List.set_cons_succ] at hK ⊢
          go_simp
          exact hK _ _ _ rfl hG (Below.refl _ _) rfl
        · have e2 : f 2 = (vval x2 L2) := hd 2 (by kernel_rfl)
          refine wanted_on rfl ?_
          simp only [putAll, Act.put, List.setIfInBounds_toArray, List.set_cons_zero, List.set_cons_succ, e2] at hK ⊢
          go_simp
          refine (HO2.out _ _ (m2.below (HB.out _ (HG2.out.trans (hG.mono HG2.out.size))).2.2.2 (Nat.le_refl _))).mono ?_
          rintro e u1 ⟨V, rfl, h1, hb⟩
          exact hK _ _ _ rfl (hG.trans (hb.mono hG.size)) hb ⟨_, rfl, h1⟩
        · obtain ⟨V1, e1, q1⟩ := hd 1 (by kernel_rfl)
          obtain ⟨V3, e3, q3⟩ := hd 3 (by kernel_rfl)
          refine wanted_on rfl ?_
          simp only [putAll, Act.put, List.setIfInBounds_toArray, List.set_cons_zero, List.set_cons_succ, e1, e3] at hK ⊢
          go_simp
          refine (HV12.out V1 V3 u).mono ?_
          rintro e u1 ⟨rfl, hb⟩
          exact hK _ _ _ rfl (hG.trans (hb.mono hG.size)) hb rfl
        · have e4 : f 4 = (.tuple #[.int .i64 r12, .int .i64 e12]) := hd 4 (by kernel_rfl)
          refine wanted_on rfl ?_
          simp only [putAll, Act.put, List.setIfInBounds_toArray, List.set_cons_zero, List.set_cons_succ, e4] at hK ⊢
          go_simp
          exact hK _ _ _ rfl hG (Below.refl _ _) rfl
        · have e5 : f 5 = (.tuple #[.int .i64 r12, .int .i64 e12]) := hd 5 (by kernel_rfl)
          refine wanted_on rfl ?_
          simp only [putAll, Act.put, List.setIfInBounds_toArray, List.set_cons_zero, List.set_cons_succ, e5] at hK ⊢
          go_simp
          exact hK _ _ _ rfl hG (Below.refl _ _) rfl
        · have e5 : f 5 = (.tuple #[.int .i64 r12, .int .i64 e12]) := hd 5 (by kernel_rfl)
          refine wanted_on rfl ?_
          simp only [putAll, Act.put, List.setIfInBounds_toArray, List.set_cons_zero, List.set_cons_succ, e5] at hK ⊢
          go_simp
          exact hK _ _ _ rfl hG (Below.refl _ _) rfl
        · have e6 : f 6 = (.int .i64 r12) := hd 6 (by kernel_rfl)
          refine wanted_on rfl ?_
          simp only [putAll, Act.put, List.setIfInBounds_toArray, List.set_cons_zero, List.set_cons_succ, e6] at hK ⊢
          go_simp
          exact hK _ _ _ rfl hG (Below.refl _ _) rfl
        · have e7 : f 7 = (.int .i64 e12) := hd 7 (by kernel_rfl)
          refine wanted_on rfl ?_
          simp only [putAll, Act.put, List.setIfInBounds_toArray, List.set_cons_zero, List.set_cons_succ, e7] at hK ⊢
          go_simp
          exact hK _ _ _ rfl hG (Below.refl _ _) rfl
      · intro f3 u3 hG hf
        have HG3 : Hid (Below (((w.alloc (.cells #[.int .i64 x0.kind, .int .i64 x0.n, .string x0.s, L0] 24)).alloc (.cells #[.int .i64 x1.kind, .int .i64 x1.n, .string x1.s, L1] 24)).alloc (.cells #[.int .i64 x2.kind, .int .i64 x2.n, .string x2.s, L2] 24)).heap.size (((w.alloc (.cells #[.int .i64 x0.kind, .int .i64 x0.n, .string x0.s, L0] 24)).alloc (.cells #[.int .i64 x1.kind, .int .i64 x1.n, .string x1.s, L1] 24)).alloc (.cells #[.int .i64 x2.kind, .int .i64 x2.n, .string x2.s, L2] 24)) u3) := (HG2.out.trans (hG.mono HG2.out.size))
        have e8 : f3 8 = .int .i64 r12 := hf 8 (by decide)
        have e9 : f3 9 = .int .i64 e12 := hf 9 (by decide)
        simp only [putAll, Act.put, List.setIfInBounds_toArray, List.set_cons_zero, List.set_cons_succ, e8, e9]
        clear hf e8 e9 hG
        go_wp2_with fail
        refine wp_grow [isV (vval x0 L0), isVal x0, isV (vval x2 L2), isVal x2, isV (.tuple #[.int .i64 r02, .int .i64 e02]), isV (.tuple #[.int .i64 r02, .int .i64 e02]), isV (.int .i64 r02), isV (.int .i64 e02), isV (.int .i64 r02), isV (.int .i64 e02)]
          ⟨stab_is _, stab_val _, stab_is _, stab_val _, stab_is _, stab_is _, stab_is _, stab_is _, stab_is _, stab_is _, trivial⟩ (by kernel_rfl) (by kernel_rfl) (by kernel_rfl) ?_ ?_
        · refine stepsOK_cons (fun f u hG hd K hK => ?_) (stepsOK_cons (fun f u hG hd K hK => ?_) (stepsOK_cons (fun f u hG hd K hK => ?_) (stepsOK_cons (fun f u hG hd K hK => ?_) (stepsOK_cons (fun f u hG hd K hK => ?_) (stepsOK_cons (fun f u hG hd K hK => ?_) (stepsOK_cons (fun f u hG hd K hK => ?_) (stepsOK_cons (fun f u hG hd K hK => ?_) (stepsOK_cons (fun f u hG hd K hK => ?_) (stepsOK_cons (fun f u hG hd K hK => ?_) stepsOK_nil)))))))))
          · obtain ⟨⟨c0, c1, c2, c3⟩, _⟩ := box4 ((HB.out _ (HG3.out.trans (hG.mono HG3.out.size))).1)
            refine wanted_on rfl ?_
            simp only [putAll, Act.put, List.setIfInBounds_toArray, List.set_cons_zero, List.set_cons_succ] at hK ⊢
            go_simp
            exact hK _ _ _ rfl hG (Below.refl _ _) rfl
          · have e0 : f 0 = (vval x0 L0) := hd 0 (by kernel_rfl)
            refine wanted_on rfl ?_
            simp only [putAll, Act.put, List.setIfInBounds_toArray, List.set_cons_zero, List.set_cons_succ, e0] at hK ⊢
            go_simp
            refine (HO0.out _ _ (m0.below (HB.out _ (HG3.out.trans (hG.mono HG3.out.size))).2.2.2 (Nat.le_refl _))).mono ?_
            rintro e u1 ⟨V, rfl, h1, hb⟩
            exact hK _ _ _ rfl (hG.trans (hb.mono hG.size)) hb ⟨_, rfl, h1⟩
          · obtain ⟨⟨c0, c1, c2, c3⟩, _⟩ := box4 ((HB.out _ (HG3.out.trans (hG.mono HG3.out.size))).2.2.1)
            refine wanted_on rfl ?_
            simp only [putAll, Act.put, List.setIfInBounds_toArray, List.set_cons_zero, List.set_cons_succ] at hK ⊢
            go_simp
            exact hK _ _ _ rfl hG (Below.refl _ _) rfl
          · have e2 : f 2 = (vval x2 L2) := hd 2 (by kernel_rfl)
            refine wanted_on rfl ?_
            simp only [putAll, Act.put, List.setIfInBounds_toArray, List.set_cons_zero, List.set_cons_succ, e2] at hK ⊢
            go_simp
            refine (HO2.out _ _ (m2.below (HB.out _ (HG3.out.trans (hG.mono HG3.out.size))).2.2.2 (Nat.le_refl _))).mono ?_
            rintro e u1 ⟨V, rfl, h1, hb⟩
            exact hK _ _ _ rfl (hG.trans (hb.mono hG.size)) hb ⟨_, rfl, h1⟩
          · obtain ⟨V1, e1, q1⟩ := hd 1 (by kernel_rfl)
            obtain ⟨V3, e3, q3⟩ := hd 3 (by kernel_rfl)
            refine wanted_on rfl ?_
            simp only [putAll, Act.put, List.setIfInBounds_toArray, List.set_cons_zero, List.set_cons_succ, e1, e3] at hK ⊢
            go_simp
            refine (HV02.out V1 V3 u).mono ?_
            rintro e u1 ⟨rfl, hb⟩
            exact hK _ _ _ rfl (hG.trans (hb.mono hG.size)) hb rfl
          · have e4 : f 4 = (.tuple #[.int .i64 r02, .int .i64 e02]) := hd 4 (by kernel_rfl)
            refine wanted_on rfl ?_
            simp only [putAll, Act.put, List.setIfInBounds_toArray, List.set_cons_zero, List.set_cons_succ, e4] at hK ⊢
            go_simp
            exact hK _ _ _ rfl hG (Below.refl _ _) rfl
          · have e5 : f 5 = (.tuple #[.int .i64 r02, .int .i64 e02]) := hd 5 (by kernel_rfl)
            refine wanted_on rfl ?_
            simp only [putAll, Act.put, List.setIfInBounds_toArray, List.set_cons_zero, List.set_cons_succ, e5] at hK ⊢
            go_simp
            exact hK _ _ _ rfl hG (Below.refl _ _) rfl
          · have e5 : f 5 = (.tuple #[.int .i64 r02, .int .i64 e02]) := hd 5 (by kernel_rfl)
            refine wanted_on rfl ?_
            simp only [putAll, Act.put, List.setIfInBounds_toArray, List.set_cons_zero, List.set_cons_succ, e5] at hK ⊢
            go_simp
            exact hK _ _ _ rfl hG (Below.refl _ _) rfl
          · have e6 : f 6 = (.int .i64 r02) := hd 6 (by kernel_rfl)
            refine wanted_on rfl ?_
            simp only [putAll, Act.put, List.setIfInBounds_toArray, List.set_cons_zero, List.set_cons_succ, e6] at hK ⊢
            go_simp
            exact hK _ _ _ rfl hG (Below.refl _ _) rfl
          · have e7 : f 7 = (.int .i64 e02) := hd 7 (by kernel_rfl)
            refine wanted_on rfl ?_
            simp only [putAll, Act.put, List.setIfInBounds_toArray, List.set_cons_zero, List.set_cons_succ, e7] at hK ⊢
            go_simp
            exact hK _ _ _ rfl hG (Below.refl _ _) rfl
        · intro f4 u4 hG hf
          have HG4 : Hid (Below (((w.alloc (.cells #[.int .i64 x0.kind, .int .i64 x0.n, .string x0.s, L0] 24)).alloc (.cells #[.int .i64 x1.kind, .int .i64 x1.n, .string x1.s, L1] 24)).alloc (.cells #[.int .i64 x2.kind, .int .i64 x2.n, .string x2.s, L2] 24)).heap.size (((w.alloc (.cells #[.int .i64 x0.kind, .int .i64 x0.n, .string x0.s, L0] 24)).alloc (.cells #[.int .i64 x1.kind, .int .i64 x1.n, .string x1.s, L1] 24)).alloc (.cells #[.int .i64 x2.kind, .int .i64 x2.n, .string x2.s, L2] 24)) u4) := (HG3.out.trans (hG.mono HG3.out.size))
          have e8 : f4 8 = .int .i64 r02 := hf 8 (by decide)
          have e9 : f4 9 = .int .i64 e02 := hf 9 (by decide)
          simp only [putAll, Act.put, List.setIfInBounds_toArray, List.set_cons_zero, List.set_cons_succ, e8, e9]
          clear hf e8 e9 hG
          go_wp2_with fail
          refine (HZ.out _).mono ?_
          rintro e u5 ⟨rfl, hb5⟩
          have HG5 : Hid (Below (((w.alloc (.cells #[.int .i64 x0.kind, .int .i64 x0.n, .string x0.s, L0] 24)).alloc (.cells #[.int .i64 x1.kind, .int .i64 x1.n, .string x1.s, L1] 24)).alloc (.cells #[.int .i64 x2.kind, .int .i64 x2.n, .string x2.s, L2] 24)).heap.size (((w.alloc (.cells #[.int .i64 x0.kind, .int .i64 x0.n, .string x0.s, L0] 24)).alloc (.cells #[.int .i64 x1.kind, .int .i64 x1.n, .string x1.s, L1] 24)).alloc (.cells #[.int .i64 x2.kind, .int .i64 x2.n, .string x2.s, L2] 24)) u5) := HG4.out.trans (hb5.mono HG4.out.size)
          clear hb5
          go_wp2_with fail
          clear HV01 HV10 HV12 HV02 HZ
          rcases HC01.out with ⟨he, rfl⟩ | ⟨rfl, rfl | rfl | rfl⟩
          · clear HC01
            refine wp_grow [isV (.int .i64 (-1)), isV (.bool false), isV (.bool false), isV (.int .i64 e01), isV (.int .i64 e01), isV (.bool false), isV (.bool false), isV (.bool false), isV (.int .i64 0), isV (.int .i64 (-0)), isV (.int .i64 0), isV (.bool false), isV (.bool false), isV (.bool false), isV (.int .i64 e01), isV (.bool false), isV (.bool false), anyV, anyV, anyV, anyV, anyV, anyV, anyV, anyV, isV (.bool false), isV (.bool false)]
              ⟨stab_is _, stab_is _, stab_is _, stab_is _, stab_is _, stab_is _, stab_is _, stab_is _, stab_is _, stab_is _, stab_is _, stab_is _, stab_is _, stab_is _, stab_is _, stab_is _, stab_is _, stab_any, stab_any, stab_any, stab_any, stab_any, stab_any, stab_any, stab_any, stab_is _, stab_is _, trivial⟩ (by kernel_rfl) (by kernel_rfl) (by kernel_rfl) ?_ ?_
            · refine stepsOK_cons (fun f u hG hd K hK => ?_) (stepsOK_cons (fun f u hG hd K hK => ?_) (stepsOK_cons (fun f u hG hd K hK => ?_) (stepsOK_cons (fun f u hG hd K hK => ?_) (stepsOK_cons (fun f u hG hd K hK => ?_) (stepsOK_cons (fun f u hG hd K hK => ?_) (stepsOK_cons (fun f u hG hd K hK => ?_) (stepsOK_cons (fun f u hG hd K hK => ?_) (stepsOK_cons (fun f u hG hd K hK => ?_) (stepsOK_cons (fun f u hG hd K hK => ?_) (stepsOK_cons (fun f u hG hd K hK => ?_) (stepsOK_cons (fun f u hG hd K hK => ?_) (stepsOK_cons (fun f u hG hd K hK => ?_) (stepsOK_cons (fun f u hG hd K hK => ?_) (stepsOK_cons (fun f u hG hd K hK => ?_) (stepsOK_cons (fun f u hG hd K hK => ?_) (stepsOK_cons (fun f u hG hd K hK => ?_) (stepsOK_cons (fun f u hG hd K hK => ?_) (stepsOK_cons (fun f u hG hd K hK => ?_) (stepsOK_cons (fun f u hG hd K hK => ?_) (stepsOK_cons (fun f u hG hd K hK => ?_) (stepsOK_cons (fun f u hG hd K hK => ?_) (stepsOK_cons (fun f u hG hd K hK => ?_) (stepsOK_cons (fun f u hG hd K hK => ?_) (stepsOK_cons (fun f u hG hd K hK => ?_) (stepsOK_cons (fun f u hG hd K hK => ?_) (stepsOK_cons (fun f u hG hd K hK => ?_) stepsOK_nil))))))))))))))))))))))))))
              · refine wanted_on rfl ?_
                simp only [putAll, Act.put, List.setIfInBounds_toArray, List.set_cons_zero, List.set_cons_succ] at hK ⊢
                go_simp
                exact hK _ _ _ rfl hG (Below.refl _ _) rfl
              · have e0 : f 0 = (.int .i64 (-1)) := hd 0 (by kernel_rfl)
                refine wanted_on rfl ?_
                simp only [putAll, Act.put, List.setIfInBounds_toArray, List.set_cons_zero, List.set_cons_succ, e0] at hK ⊢
                go_simp
                exact hK _ _ _ rfl hG (Below.refl _ _) rfl
              · have e1 : f 1 = (.bool false) := hd 1 (by kernel_rfl)
                refine wanted_on rfl ?_
                simp only [putAll, Act.put, List.setIfInBounds_toArray, List.set_cons_zero, List.set_cons_succ, e1] at hK ⊢
                go_simp
                exact hK _ _ _ rfl hG (Below.refl _ _) rfl
              · have e2 : f 2 = (.bool false) := hd 2 (by kernel_rfl)
                refine wanted_on (by simp [Region.wanted, yielded, putAll, Act.put, List.setIfInBounds_toArray, List.set_cons_zero, List.set_cons_succ, e2]) ?_
                simp only [putAll, Act.put, List.setIfInBounds_toArray, List.set_cons_zero, List.set_cons_succ, e2] at hK ⊢
                go_simp
                exact hK _ _ _ rfl hG (Below.refl _ _) rfl
              · have e2 : f 2 = (.bool false) := hd 2 (by kernel_rfl)
                refine wanted_on (by simp [Region.wanted, yielded, putAll, Act.put, List.setIfInBounds_toArray, List.set_cons_zero, List.set_cons_succ, e2]) ?_
                simp only [putAll, Act.put, List.setIfInBounds_toArray, List.set_cons_zero, List.set_cons_succ, e2] at hK ⊢
                go_simp
                exact hK _ _ _ rfl hG (Below.refl _ _) rfl
              · have e2 : f 2 = (.bool false) := hd 2 (by kernel_rfl)
                have e3 : f 3 = (.int .i64 e01) := hd 3 (by kernel_rfl)
                have e4 : f 4 = (.int .i64 e01) := hd 4 (by kernel_rfl)
                refine wanted_on (by simp [Region.wanted, yielded, putAll, Act.put, List.setIfInBounds_toArray, List.set_cons_zero, List.set_cons_succ, e2, e3, e4]) ?_
                simp only [putAll, Act.put, List.setIfInBounds_toArray, List.set_cons_zero, List.set_cons_succ, e2, e3, e4] at hK ⊢
                go_simp
                exact hK _ _ _ rfl hG (Below.refl _ _) (by simp [isV, atR])
              · have e2 : f 2 = (.bool false) := hd 2 (by kernel_rfl)
                have e5 : f 5 = (.bool false) := hd 5 (by kernel_rfl)
                refine wanted_on rfl ?_
                simp only [putAll, Act.put, List.setIfInBounds_toArray, List.set_cons_zero, List.set_cons_succ, e2, e5] at hK ⊢
                go_simp
                exact hK _ _ _ rfl hG (Below.refl _ _) rfl
              · have e6 : f 6 = (.bool false) := hd 6 (by kernel_rfl)
                refine wanted_on rfl ?_
                simp only [putAll, Act.put, List.setIfInBounds_toArray, List.set_cons_zero, List.set_cons_succ, e6] at hK ⊢
                go_simp
                exact hK _ _ _ rfl hG (Below.refl _ _) rfl
              · have e7 : f 7 = (.bool false) := hd 7 (by kernel_rfl)
                refine wanted_on (by simp [Region.wanted, yielded, putAll, Act.put, List.setIfInBounds_toArray, List.set_cons_zero, List.set_cons_succ, e7]) ?_
                simp only [putAll, Act.put, List.setIfInBounds_toArray, List.set_cons_zero, List.set_cons_succ, e7] at hK ⊢
                go_simp
                exact hK _ _ _ rfl hG (Below.refl _ _) rfl
              · have e7 : f 7 = (.bool false) := hd 7 (by kernel_rfl)
                refine wanted_on (by simp [Region.wanted, yielded, putAll, Act.put, List.setIfInBounds_toArray, List.set_cons_zero, List.set_cons_succ, e7]) ?_
                simp only [putAll, Act.put, List.setIfInBounds_toArray, List.set_cons_zero, List.set_cons_succ, e7] at hK ⊢
                go_simp
                exact hK _ _ _ rfl hG (Below.refl _ _) rfl
              · have e7 : f 7 = (.bool false) := hd 7 (by kernel_rfl)
                have e9 : f 9 = (.int .i64 (-0)) := hd 9 (by kernel_rfl)
                refine wanted_on (by simp [Region.wanted, yielded, putAll, Act.put, List.setIfInBounds_toArray, List.set_cons_zero, List.set_cons_succ, e7, e9]) ?_
                simp only [putAll, Act.put, List.setIfInBounds_toArray, List.set_cons_zero, List.set_cons_succ, e7, e9] at hK ⊢
                go_simp
                exact hK _ _ _ rfl hG (Below.refl _ _) (by first | rfl | simp [isV, atR])
              · have e7 : f 7 = (.bool false) := hd 7 (by kernel_rfl)
                have e8 : f 8 = (.int .i64 0) := hd 8 (by kernel_rfl)
                have e10 : f 10 = (.int .i64 0) := hd 10 (by kernel_rfl)
                refine wanted_on (by simp [Region.wanted, yielded, putAll, Act.put, List.setIfInBounds_toArray, List.set_cons_zero, List.set_cons_succ, e7, e8, e10]) ?_
                simp only [putAll, Act.put, List.setIfInBounds_toArray, List.set_cons_zero, List.set_cons_succ, e7, e8, e10] at hK ⊢
                go_simp
                exact hK _ _ _ rfl hG (Below.refl _ _) (by first | rfl | simp [isV, atR])
              · have e7 : f 7 = (.bool false) := hd 7 (by kernel_rfl)
                have e11 : f 11 = (.bool false) := hd 11 (by kernel_rfl)
                refine wanted_on rfl ?_
                simp only [putAll, Act.put, List.setIfInBounds_toArray, List.set_cons_zero, List.set_cons_succ, e7, e11] at hK ⊢
                go_simp
                exact hK _ _ _ rfl hG (Below.refl _ _) rfl
              · have e12 : f 12 = (.bool false) := hd 12 (by kernel_rfl)
                refine wanted_on rfl ?_
                simp only [putAll, Act.put, List.setIfInBounds_toArray, List.set_cons_zero, List.set_cons_succ, e12] at hK ⊢
                go_simp
                exact hK _ _ _ rfl hG (Below.refl _ _) rfl
              · have e13 : f 13 = (.bool false) := hd 13 (by kernel_rfl)
                refine wanted_on (by simp [Region.wanted, yielded, putAll, Act.put, List.setIfInBounds_toArray, List.set_cons_zero, List.set_cons_succ, e13]) ?_
                simp only [putAll, Act.put, List.setIfInBounds_toArray, List.set_cons_zero, List.set_cons_succ, e13] at hK ⊢
                go_simp
                exact hK _ _ _ rfl hG (Below.refl _ _) rfl
              · have e13 : f 13 = (.bool false) := hd 13 (by kernel_rfl)
                have e14 : f 14 = (.int .i64 e01) := hd 14 (by kernel_rfl)
                refine wanted_on (by simp [Region.wanted, yielded, putAll, Act.put, List.setIfInBounds_toArray, List.set_cons_zero, List.set_cons_succ, e13, e14]) ?_
                simp only [putAll, Act.put, List.setIfInBounds_toArray, List.set_cons_zero, List.set_cons_succ, e13, e14] at hK ⊢
                go_simp
                exact hK _ _ _ rfl hG (Below.refl _ _) (by simp [isV, atR, he])
              · have e13 : f 13 = (.bool false) := hd 13 (by kernel_rfl)
                have e15 : f 15 = (.bool false) := hd 15 (by kernel_rfl)
                refine wanted_on (by simp [Region.wanted, yielded, putAll, Act.put, List.setIfInBounds_toArray, List.set_cons_zero, List.set_cons_succ, e13, e15]) ?_
                simp only [putAll, Act.put, List.setIfInBounds_toArray, List.set_cons_zero, List.set_cons_succ, e13, e15] at hK ⊢
                go_simp
                exact hK _ _ _ rfl hG (Below.refl _ _) rfl
              · have e16 : f 16 = (.bool false) := hd 16 (by kernel_rfl)
                refine wanted_off (by simp [Region.wanted, yielded, putAll, Act.put, List.setIfInBounds_toArray, List.set_cons_zero, List.set_cons_succ, e16]) ?_
                exact hK _ _ _ rfl hG (Below.refl _ _) trivial
              · have e16 : f 16 = (.bool false) := hd 16 (by kernel_rfl)
                refine wanted_off (by simp [Region.wanted, yielded, putAll, Act.put, List.setIfInBounds_toArray, List.set_cons_zero, List.set_cons_succ, e16]) ?_
                exact hK _ _ _ rfl hG (Below.refl _ _) trivial
              · have e16 : f 16 = (.bool false) := hd 16 (by kernel_rfl)
                refine wanted_off (by simp [Region.wanted, yielded, putAll, Act.put, List.setIfInBounds_toArray, List.set_cons_zero, List.set_cons_succ, e16]) ?_
                exact hK _ _ _ rfl hG (Below.refl _ _) trivial
              · have e16 : f 16 = (.bool false) := hd 16 (by kernel_rfl)
                refine wanted_off (by simp [Region.wanted, yielded, putAll, Act.put, List.setIfInBounds_toArray, List.set_cons_zero, List.set_cons_succ, e16]) ?_
                exact hK _ _ _ rfl hG (Below.refl _ _) trivial
              · have e16 : f 16 = (.bool false) := hd 16 (by kernel_rfl)
                refine wanted_off (by simp [Region.wanted, yielded, putAll, Act.put, List.setIfInBounds_toArray, List.set_cons_zero, List.set_cons_succ, e16]) ?_
                exact hK _ _ _ rfl hG (Below.refl _ _) trivial
              · have e16 : f 16 = (.bool false) := hd 16 (by kernel_rfl)
                refine wanted_off (by simp [Region.wanted, yielded, putAll, Act.put, List.setIfInBounds_toArray, List.set_cons_zero, List.set_cons_succ, e16]) ?_
                exact hK _ _ _ rfl hG (Below.refl _ _) trivial
              · have e16 : f 16 = (.bool false) := hd 16 (by kernel_rfl)
                refine wanted_off (by simp [Region.wanted, yielded, putAll, Act.put, List.setIfInBounds_toArray, List.set_cons_zero, List.set_cons_succ, e16]) ?_
                exact hK _ _ _ rfl hG (Below.refl _ _) trivial
              · have e16 : f 16 = (.bool false) := hd 16 (by kernel_rfl)
                refine wanted_off (by simp [Region.wanted, yielded, putAll, Act.put, List.setIfInBounds_toArray, List.set_cons_zero, List.set_cons_succ, e16]) ?_
                exact hK _ _ _ rfl hG (Below.refl _ _) trivial
              · have e13 : f 13 = (.bool false) := hd 13 (by kernel_rfl)
                have e16 : f 16 = (.bool false) := hd 16 (by kernel_rfl)
                refine wanted_on (by simp [Region.wanted, yielded, putAll, Act.put, List.setIfInBounds_toArray, List.set_cons_zero, List.set_cons_succ, e13, e16]) ?_
                simp only [putAll, Act.put, List.setIfInBounds_toArray, List.set_cons_zero, List.set_cons_succ, e13, e16] at hK ⊢
                go_simp
                exact hK _ _ _ rfl hG (Below.refl _ _) rfl
              · have e13 : f 13 = (.bool false) := hd 13 (by kernel_rfl)
                have e25 : f 25 = (.bool false) := hd 25 (by kernel_rfl)
                refine wanted_on rfl ?_
                simp only [putAll, Act.put, List.setIfInBounds_toArray, List.set_cons_zero, List.set_cons_succ, e13, e25] at hK ⊢
                go_simp
                exact hK _ _ _ rfl hG (Below.refl _ _) rfl
            · intro f6 u6 hG hf
              have HBB : Hid _ := (HB.out _ (HG5.out.trans (hG.mono HG5.out.size))).2.2.2
              have e26 : f6 26 = .bool false := hf 26 (by decide)
              simp only [putAll, Act.put, List.setIfInBounds_toArray, List.set_cons_zero, List.set_cons_succ, e26]
              clear hf e26 hG HB HG1 HG2 HG3 HG4 HG5 HSM HO0 HO1 HO2
              go_wp2_with fail
              go_ret
              exact ⟨rfl, HBB.out⟩
          · clear HC01
            refine wp_grow [isV (.int .i64 (-1)), isV (.bool false), isV (.bool false), isV (.int .i64 0), isV (.int .i64 0), isV (.bool false), isV (.bool false), isV (.bool false), isV (.int .i64 (-1)), isV (.int .i64 (-(-1))), isV (.int .i64 (-1)), isV (.bool false), isV (.bool false), isV (.bool false), isV (.int .i64 0), isV (.bool true), isV (.bool true), isV (.int .i64 (-1)), isV (.bool false), isV (vval x0 L0), isVal x0, isV (vval x1 L1), isVal x1, isV (.bool false), isV (.bool false), isV (.bool false), isV (.bool false)]
              ⟨stab_is _, stab_is _, stab_is _, stab_is _, stab_is _, stab_is _, stab_is _, stab_is _, stab_is _, stab_is _, stab_is _, stab_is _, stab_is _, stab_is _, stab_is _, stab_is _, stab_is _, stab_is _, stab_is _, stab_is _, stab_val _, stab_is _, stab_val _, stab_is _, stab_is _, stab_is _, stab_is _, trivial⟩ (by kernel_rfl) (by kernel_rfl) (by kernel_rfl) ?_ ?_
            · refine stepsOK_cons (fun f u hG hd K hK => ?_) (stepsOK_cons (fun f u hG hd K hK => ?_) (stepsOK_cons (fun f u hG hd K hK => ?_) (stepsOK_cons (fun f u hG hd K hK => ?_) (stepsOK_cons (fun f u hG hd K hK => ?_) (stepsOK_cons (fun f u hG hd K hK => ?_) (stepsOK_cons (fun f u hG hd K hK => ?_) (stepsOK_cons (fun f u hG hd K hK => ?_) (stepsOK_cons (fun f u hG hd K hK => ?_) (stepsOK_cons (fun f u hG hd K hK => ?_) (stepsOK_cons (fun f u hG hd K hK => ?_) (stepsOK_cons (fun f u hG hd K hK => ?_) (stepsOK_cons (fun f u hG hd K hK => ?_) (stepsOK_cons (fun f u hG hd K hK => ?_) (stepsOK_cons (fun f u hG hd K hK => ?_) (stepsOK_cons (fun f u hG hd K hK => ?_) (stepsOK_cons (fun f u hG hd K hK => ?_) (stepsOK_cons (fun f u hG hd K hK => ?_) (stepsOK_cons (fun f u hG hd K hK => ?_) (stepsOK_cons (fun f u hG hd K hK => ?_) (stepsOK_cons (fun f u hG hd K hK => ?_) (stepsOK_cons (fun f u hG hd K hK => ?_) (stepsOK_cons (fun f u hG hd K hK => ?_) (stepsOK_cons (fun f u hG hd K hK => ?_) (stepsOK_cons (fun f u hG hd K hK => ?_) (stepsOK_cons (fun f u hG hd K hK => ?_) (stepsOK_cons (fun f u hG hd K hK => ?_) stepsOK_nil))))))))))))))))))))))))))
              · refine wanted_on rfl ?_
                simp only [putAll, Act.put, List.setIfInBounds_toArray, List.set_cons_zero, List.set_cons_succ] at hK ⊢
                go_simp
                exact hK _ _ _ rfl hG (Below.refl _ _) rfl
              · have e0 : f 0 = (.int .i64 (-1)) := hd 0 (by kernel_rfl)
                refine wanted_on rfl ?_
                simp only [putAll, Act.put, List.setIfInBounds_toArray, List.set_cons_zero, List.set_cons_succ, e0] at hK ⊢
                go_simp
                exact hK _ _ _ rfl hG (Below.refl _ _) rfl
              · have e1 : f 1 = (.bool false) := hd 1 (by kernel_rfl)
                refine wanted_on rfl ?_
                simp only [putAll, Act.put, List.setIfInBounds_toArray, List.set_cons_zero, List.set_cons_succ, e1] at hK ⊢
                go_simp
                exact hK _ _ _ rfl hG (Below.refl _ _) rfl
              · have e2 : f 2 = (.bool false) := hd 2 (by kernel_rfl)
                refine wanted_on (by simp [Region.wanted, yielded, putAll, Act.put, List.setIfInBounds_toArray, List.set_cons_zero, List.set_cons_succ, e2]) ?_
                simp only [putAll, Act.put, List.setIfInBounds_toArray, List.set_cons_zero, List.set_cons_succ, e2] at hK ⊢
                go_simp
                exact hK _ _ _ rfl hG (Below.refl _ _) rfl
              · have e2 : f 2 = (.bool false) := hd 2 (by kernel_rfl)
                refine wanted_on (by simp [Region.wanted, yielded, putAll, Act.put, List.setIfInBounds_toArray, List.set_cons_zero, List.set_cons_succ, e2]) ?_
                simp only [putAll, Act.put, List.setIfInBounds_toArray, List.set_cons_zero, List.set_cons_succ, e2] at hK ⊢
                go_simp
                exact hK _ _ _ rfl hG (Below.refl _ _) rfl
              · have e2 : f 2 = (.bool false) := hd 2 (by kernel_rfl)
                have e3 : f 3 = (.int .i64 0) := hd 3 (by kernel_rfl)
                have e4 : f 4 = (.int .i64 0) := hd 4 (by kernel_rfl)
                refine wanted_on (by simp [Region.wanted, yielded, putAll, Act.put, List.setIfInBounds_toArray, List.set_cons_zero, List.set_cons_succ, e2, e3, e4]) ?_
                simp only [putAll, Act.put, List.setIfInBounds_toArray, List.set_cons_zero, List.set_cons_succ, e2, e3, e4] at hK ⊢
                go_simp
                exact hK _ _ _ rfl hG (Below.refl _ _) (by simp [isV, atR])
              · have e2 : f 2 = (.bool false) := hd 2 (by kernel_rfl)
                have e5 : f 5 = (.bool false) := hd 5 (by kernel_rfl)
                refine wanted_on rfl ?_
                simp only [putAll, Act.put, List.setIfInBounds_toArray, List.set_cons_zero, List.set_cons_succ, e2, e5] at hK ⊢
                go_simp
                exact hK _ _ _ rfl hG (Below.refl _ _) rfl
              · have e6 : f 6 = (.bool false) := hd 6 (by kernel_rfl)
                refine wanted_on rfl ?_
                simp only [putAll, Act.put, List.setIfInBounds_toArray, List.set_cons_zero, List.set_cons_succ, e6] at hK ⊢
                go_simp
                exact hK _ _ _ rfl hG (Below.refl _ _) rfl
              · have e7 : f 7 = (.bool false) := hd 7 (by kernel_rfl)
                refine wanted_on (by simp [Region.wanted, yielded, putAll, Act.put, List.setIfInBounds_toArray, List.set_cons_zero, List.set_cons_succ, e7]) ?_
                simp only [putAll, Act.put, List.setIfInBounds_toArray, List.set_cons_zero, List.set_cons_succ, e7] at hK ⊢
                go_simp
                exact hK _ _ _ rfl hG (Below.refl _ _) rfl
              · have e7 : f 7 = (.bool false) := hd 7 (by kernel_rfl)
                refine wanted_on (by simp [Region.wanted, yielded, putAll, Act.put, List.setIfInBounds_toArray, List.set_cons_zero, List.set_cons_succ, e7]) ?_
                simp only [putAll, Act.put, List.setIfInBounds_toArray, List.set_cons_zero, List.set_cons_succ, e7] at hK ⊢
                go_simp
                exact hK _ _ _ rfl hG (Below.refl _ _) rfl
              · have e7 : f 7 = (.bool false) := hd 7 (by kernel_rfl)
                have e9 : f 9 = (.int .i64 (-(-1))) := hd 9 (by kernel_rfl)
                refine wanted_on (by simp [Region.wanted, yielded, putAll, Act.put, List.setIfInBounds_toArray, List.set_cons_zero, List.set_cons_succ, e7, e9]) ?_
                simp only [putAll, Act.put, List.setIfInBounds_toArray, List.set_cons_zero, List.set_cons_succ, e7, e9] at hK ⊢
                go_simp
                exact hK _ _ _ rfl hG (Below.refl _ _) (by first | rfl | simp [isV, atR])
              · have e7 : f 7 = (.bool false) := hd 7 (by kernel_rfl)
                have e8 : f 8 = (.int .i64 (-1)) := hd 8 (by kernel_rfl)
                have e10 : f 10 = (.int .i64 (-1)) := hd 10 (by kernel_rfl)
                refine wanted_on (by simp [Region.wanted, yielded, putAll, Act.put, List.setIfInBounds_toArray, List.set_cons_zero, List.set_cons_succ, e7, e8, e10]) ?_
                simp only [putAll, Act.put, List.setIfInBounds_toArray, List.set_cons_zero, List.set_cons_succ, e7, e8, e10] at hK ⊢
                go_simp
                exact hK _ _ _ rfl hG (Below.refl _ _) (by first | rfl | simp [isV, atR])
              · have e7 : f 7 = (.bool false) := hd 7 (by kernel_rfl)
                have e11 : f 11 = (.bool false) := hd 11 (by kernel_rfl)
                refine wanted_on rfl ?_
                simp only [putAll, Act.put, List.setIfInBounds_toArray, List.set_cons_zero, List.set_cons_succ, e7, e11] at hK ⊢
                go_simp
                exact hK _ _ _ rfl hG (Below.refl _ _) rfl
              · have e12 : f 12 = (.bool false) := hd 12 (by kernel_rfl)
                refine wanted_on rfl ?_
                simp only [putAll, Act.put, List.setIfInBounds_toArray, List.set_cons_zero, List.set_cons_succ, e12] at hK ⊢
                go_simp
                exact hK _ _ _ rfl hG (Below.refl _ _) rfl
              · have e13 : f 13 = (.bool false) := hd 13 (by kernel_rfl)
                refine wanted_on (by simp [Region.wanted, yielded, putAll, Act.put, List.setIfInBounds_toArray, List.set_cons_zero, List.set_cons_succ, e13]) ?_
                simp only [putAll, Act.put, List.setIfInBounds_toArray, List.set_cons_zero, List.set_cons_succ, e13] at hK ⊢
                go_simp
                exact hK _ _ _ rfl hG (Below.refl _ _) rfl
              · have e13 : f 13 = (.bool false) := hd 13 (by kernel_rfl)
                have e14 : f 14 = (.int .i64 0) := hd 14 (by kernel_rfl)
                refine wanted_on (by simp [Region.wanted, yielded, putAll, Act.put, List.setIfInBounds_toArray, List.set_cons_zero, List.set_cons_succ, e13, e14]) ?_
                simp only [putAll, Act.put, List.setIfInBounds_toArray, List.set_cons_zero, List.set_cons_succ, e13, e14] at hK ⊢
                go_simp
                exact hK _ _ _ rfl hG (Below.refl _ _) rfl
              · have e13 : f 13 = (.bool false) := hd 13 (by kernel_rfl)
                have e15 : f 15 = (.bool true) := hd 15 (by kernel_rfl)
                refine wanted_on (by simp [Region.wanted, yielded, putAll, Act.put, List.setIfInBounds_toArray, List.set_cons_zero, List.set_cons_succ, e13, e15]) ?_
                simp only [putAll, Act.put, List.setIfInBounds_toArray, List.set_cons_zero, List.set_cons_succ, e13, e15] at hK ⊢
                go_simp
                exact hK _ _ _ rfl hG (Below.refl _ _) rfl
              · have e16 : f 16 = (.bool true) := hd 16 (by kernel_rfl)
                refine wanted_on (by simp [Region.wanted, yielded, putAll, Act.put, List.setIfInBounds_toArray, List.set_cons_zero, List.set_cons_succ, e16]) ?_
                simp only [putAll, Act.put, List.setIfInBounds_toArray, List.set_cons_zero, List.set_cons_succ, e16] at hK ⊢
                go_simp
                exact hK _ _ _ rfl hG (Below.refl _ _) rfl
              · have e16 : f 16 = (.bool true) := hd 16 (by kernel_rfl)
                have e17 : f 17 = (.int .i64 (-1)) := hd 17 (by kernel_rfl)
                refine wanted_on (by simp [Region.wanted, yielded, putAll, Act.put, List.setIfInBounds_toArray, List.set_cons_zero, List.set_cons_succ, e16, e17]) ?_
                simp only [putAll, Act.put, List.setIfInBounds_toArray, List.set_cons_zero, List.set_cons_succ, e16, e17] at hK ⊢
                go_simp
                exact hK _ _ _ rfl hG (Below.refl _ _) rfl
              · have e16 : f 16 = (.bool true) := hd 16 (by kernel_rfl)
                obtain ⟨⟨c0, c1, c2, c3⟩, _⟩ := box4 ((HB.out _ (HG5.out.trans (hG.mono HG5.out.size))).1)
                refine wanted_on (by simp [Region.wanted, yielded, putAll, Act.put, List.setIfInBounds_toArray, List.set_cons_zero, List.set_cons_succ, e16]) ?_
                simp only [putAll, Act.put, List.setIfInBounds_toArray, List.set_cons_zero, List.set_cons_succ, e16] at hK ⊢
                go_simp
                exact hK _ _ _ rfl hG (Below.refl _ _) rfl
              · have e16 : f 16 = (.bool true) := hd 16 (by kernel_rfl)
                have e19 : f 19 = (vval x0 L0) := hd 19 (by kernel_rfl)
                refine wanted_on (by simp [Region.wanted, yielded, putAll, Act.put, List.setIfInBounds_toArray, List.set_cons_zero, List.set_cons_succ, e16, e19]) ?_
                simp only [putAll, Act.put, List.setIfInBounds_toArray, List.set_cons_zero, List.set_cons_succ, e16, e19] at hK ⊢
                go_simp
                refine (HO0.out _ _ (m0.below (HB.out _ (HG5.out.trans (hG.mono HG5.out.size))).2.2.2 (Nat.le_refl _))).mono ?_
                rintro e u1 ⟨V, rfl, h1, hb⟩
                exact hK _ _ _ rfl (hG.trans (hb.mono hG.size)) hb ⟨_, rfl, h1⟩
              · have e16 : f 16 = (.bool true) := hd 16 (by kernel_rfl)
                obtain ⟨⟨c0, c1, c2, c3⟩, _⟩ := box4 ((HB.out _ (HG5.out.trans (hG.mono HG5.out.size))).2.1)
                refine wanted_on (by simp [Region.wanted, yielded, putAll, Act.put, List.setIfInBounds_toArray, List.set_cons_zero, List.set_cons_succ, e16]) ?_
                simp only [putAll, Act.put, List.setIfInBounds_toArray, List.set_cons_zero, List.set_cons_succ, e16] at hK ⊢
                go_simp
                exact hK _ _ _ rfl hG (Below.refl _ _) rfl
              · have e16 : f 16 = (.bool true) := hd 16 (by kernel_rfl)
                have e21 : f 21 = (vval x1 L1) := hd 21 (by kernel_rfl)
                refine wanted_on (by simp [Region.wanted, yielded, putAll, Act.put, List.setIfInBounds_toArray, List.set_cons_zero, List.set_cons_succ, e16, e21]) ?_
                simp only [putAll, Act.put, List.setIfInBounds_toArray, List.set_cons_zero, List.set_cons_succ, e16, e21] at hK ⊢
                go_simp
                refine (HO1.out _ _ (m1.below (HB.out _ (HG5.out.trans (hG.mono HG5.out.size))).2.2.2 (Nat.le_refl _))).mono ?_
                rintro e u1 ⟨V, rfl, h1, hb⟩
                exact hK _ _ _ rfl (hG.trans (hb.mono hG.size)) hb ⟨_, rfl, h1⟩
              · have e16 : f 16 = (.bool true) := hd 16 (by kernel_rfl)
                obtain ⟨V20, e20, q20⟩ := hd 20 (by kernel_rfl)
                obtain ⟨V22, e22, q22⟩ := hd 22 (by kernel_rfl)
                refine wanted_on (by simp [Region.wanted, yielded, putAll, Act.put, List.setIfInBounds_toArray, List.set_cons_zero, List.set_cons_succ, e16, e20, e22]) ?_
                simp only [putAll, Act.put, List.setIfInBounds_toArray, List.set_cons_zero, List.set_cons_succ, e16, e20, e22] at hK ⊢
                go_simp
                refine (HSM.out V20 V22 u rfl q20 q22).mono ?_
                rintro e u1 ⟨rfl, hb⟩
                exact hK _ _ _ rfl (hG.trans (hb.mono hG.size)) hb rfl
              · have e16 : f 16 = (.bool true) := hd 16 (by kernel_rfl)
                have e18 : f 18 = (.bool false) := hd 18 (by kernel_rfl)
                have e23 : f 23 = (.bool false) := hd 23 (by kernel_rfl)
                refine wanted_on (by simp [Region.wanted, yielded, putAll, Act.put, List.setIfInBounds_toArray, List.set_cons_zero, List.set_cons_succ, e16, e18, e23]) ?_
                simp only [putAll, Act.put, List.setIfInBounds_toArray, List.set_cons_zero, List.set_cons_succ, e16, e18, e23] at hK ⊢
                go_simp
                exact hK _ _ _ rfl hG (Below.refl _ _) rfl
              · have e13 : f 13 = (.bool false) := hd 13 (by kernel_rfl)
                have e16 : f 16 = (.bool true) := hd 16 (by kernel_rfl)
                have e24 : f 24 = (.bool false) := hd 24 (by kernel_rfl)
                refine wanted_on (by simp [Region.wanted, yielded, putAll, Act.put, List.setIfInBounds_toArray, List.set_cons_zero, List.set_cons_succ, e13, e16, e24]) ?_
                simp only [putAll, Act.put, List.setIfInBounds_toArray, List.set_cons_zero, List.set_cons_succ, e13, e16, e24] at hK ⊢
                go_simp
                exact hK _ _ _ rfl hG (Below.refl _ _) rfl
              · have e13 : f 13 = (.bool false) := hd 13 (by kernel_rfl)
                have e25 : f 25 = (.bool false) := hd 25 (by kernel_rfl)
                refine wanted_on rfl ?_
                simp only [putAll, Act.put, List.setIfInBounds_toArray, List.set_cons_zero, List.set_cons_succ, e13, e25] at hK ⊢
                go_simp
                exact hK _ _ _ rfl hG (Below.refl _ _) rfl
            · intro f6 u6 hG hf
              have HBB : Hid _ := (HB.out _ (HG5.out.trans (hG.mono HG5.out.size))).2.2.2
              have e26 : f6 26 = .bool false := hf 26 (by decide)
              simp only [putAll, Act.put, List.setIfInBounds_toArray, List.set_cons_zero, List.set_cons_succ, e26]
              clear hf e26 hG HB HG1 HG2 HG3 HG4 HG5 HSM HO0 HO1 HO2
              rcases HC12.out with ⟨h12, rfl⟩ | ⟨rfl, rfl | rfl | rfl⟩
              · clear HC12 HC02 HT
                go_wp2_with fail
                go_ret
                exact ⟨rfl, HBB.out⟩
              · obtain ⟨rfl, hle, hiff⟩ := HT.out rfl rfl (by decide) (by decide)
                have h02 : r02 = (-1) := by rcases HC02.out with ⟨h, _⟩ | ⟨_, h⟩ <;> omega
                subst h02
                clear HC12 HC02 HT hle hiff
                go_wp2_with fail
                go_ret
                exact ⟨rfl, HBB.out⟩
              · obtain ⟨rfl, hle, hiff⟩ := HT.out rfl rfl (by decide) (by decide)
                have h02 : r02 = (-1) := by rcases HC02.out with ⟨h, _⟩ | ⟨_, h⟩ <;> omega
                subst h02
                clear HC12 HC02 HT hle hiff
                go_wp2_with fail
                go_ret
                exact ⟨rfl, HBB.out⟩
              · clear HC12 HC02 HT
                go_wp2_with fail
                go_ret
                exact ⟨rfl, HBB.out⟩
          · clear HC01
            refine wp_grow [isV (.int .i64 (-1)), isV (.bool false), isV (.bool false), isV (.int .i64 0), isV (.int .i64 0), isV (.bool false), isV (.bool false), isV (.bool false), isV (.int .i64 0), isV (.int .i64 (-0)), isV (.int .i64 0), isV (.bool false), isV (.bool false), isV (.bool false), isV (.int .i64 0), isV (.bool true), isV (.bool true), isV (.int .i64 0), isV (.bool true), isV (vval x0 L0), isVal x0, isV (vval x1 L1), isVal x1, isV (.bool true), isV (.bool false), isV (.bool false), isV (.bool false)]
              ⟨stab_is _, stab_is _, stab_is _, stab_is _, stab_is _, stab_is _, stab_is _, stab_is _, stab_is _, stab_is _, stab_is _, stab_is _, stab_is _, stab_is _, stab_is _, stab_is _, stab_is _, stab_is _, stab_is _, stab_is _, stab_val _, stab_is _, stab_val _, stab_is _, stab_is _, stab_is _, stab_is _, trivial⟩ (by kernel_rfl) (by kernel_rfl) (by kernel_rfl) ?_ ?_
            · refine stepsOK_cons (fun f u hG hd K hK => ?_) (stepsOK_cons (fun f u hG hd K hK => ?_) (stepsOK_cons (fun f u hG hd K hK => ?_) (stepsOK_cons (fun f u hG hd K hK => ?_) (stepsOK_cons (fun f u hG hd K hK => ?_) (stepsOK_cons (fun f u hG hd K hK => ?_) (stepsOK_cons (fun f u hG hd K hK => ?_) (stepsOK_cons (fun f u hG hd K hK => ?_) (stepsOK_cons (fun f u hG hd K hK => ?_) (stepsOK_cons (fun f u hG hd K hK => ?_) (stepsOK_cons (fun f u hG hd K hK => ?_) (stepsOK_cons (fun f u hG hd K hK => ?_) (stepsOK_cons (fun f u hG hd K hK => ?_) (stepsOK_cons (fun f u hG hd K hK => ?_) (stepsOK_cons (fun f u hG hd K hK => ?_) (stepsOK_cons (fun f u hG hd K hK => ?_) (stepsOK_cons (fun f u hG hd K hK => ?_) (stepsOK_cons (fun f u hG hd K hK => ?_) (stepsOK_cons (fun f u hG hd K hK => ?_) (stepsOK_cons (fun f u hG hd K hK => ?_) (stepsOK_cons (fun f u hG hd K hK => ?_) (stepsOK_cons (fun f u hG hd K hK => ?_) (stepsOK_cons (fun f u hG hd K hK => ?_) (stepsOK_cons (fun f u hG hd K hK => ?_) (stepsOK_cons (fun f u hG hd K hK => ?_) (stepsOK_cons (fun f u hG hd K hK => ?_) (stepsOK_cons (fun f u hG hd K hK => ?_) stepsOK_nil))))))))))))))))))))))))))
              · refine wanted_on rfl ?_
                simp only [putAll, Act.put, List.setIfInBounds_toArray, List.set_cons_zero, List.set_cons_succ] at hK ⊢
                go_simp
                exact hK _ _ _ rfl hG (Below.refl _ _) rfl
              · have e0 : f 0 = (.int .i64 (-1)) := hd 0 (by kernel_rfl)
                refine wanted_on rfl ?_
                simp only [putAll, Act.put, List.setIfInBounds_toArray, List.set_cons_zero, List.set_cons_succ, e0] at hK ⊢
                go_simp
                exact hK _ _ _ rfl hG (Below.refl _ _) rfl
              · have e1 : f 1 = (.bool false) := hd 1 (by kernel_rfl)
                refine wanted_on rfl ?_
                simp only [putAll, Act.put, List.setIfInBounds_toArray, List.set_cons_zero, List.set_cons_succ, e1] at hK ⊢
                go_simp
                exact hK _ _ _ rfl hG (Below.refl _ _) rfl
              · have e2 : f 2 = (.bool false) := hd 2 (by kernel_rfl)
                refine wanted_on (by simp [Region.wanted, yielded, putAll, Act.put, List.setIfInBounds_toArray, List.set_cons_zero, List.set_cons_succ, e2]) ?_
                simp only [putAll, Act.put, List.setIfInBounds_toArray, List.set_cons_zero, List.set_cons_succ, e2] at hK ⊢
                go_simp
                exact hK _ _ _ rfl hG (Below.refl _ _) rfl
              · have e2 : f 2 = (.bool false) := hd 2 (by kernel_rfl)
                refine wanted_on (by simp [Region.wanted, yielded, putAll, Act.put, List.setIfInBounds_toArray, List.set_cons_zero, List.set_cons_succ, e2]) ?_
                simp only [putAll, Act.put, List.setIfInBounds_toArray, List.set_cons_zero, List.set_cons_succ, e2] at hK ⊢
                go_simp
                exact hK _ _ _ rfl hG (Below.refl _ _) rfl
              · have e2 : f 2 = (.bool false) := hd 2 (by kernel_rfl)
                have e3 : f 3 = (.int .i64 0) := hd 3 (by kernel_rfl)
                have e4 : f 4 = (.int .i64 0) := hd 4 (by kernel_rfl)
                refine wanted_on (by simp [Region.wanted, yielded, putAll, Act.put, List.setIfInBounds_toArray, List.set_cons_zero, List.set_cons_succ, e2, e3, e4]) ?_
                simp only [putAll, Act.put, List.setIfInBounds_toArray, List.set_cons_zero, List.set_cons_succ, e2, e3, e4] at hK ⊢
                go_simp
                exact hK _ _ _ rfl hG (Below.refl _ _) (by simp [isV, atR])
              · have e2 : f 2 = (.bool false) := hd 2 (by kernel_rfl)
                have e5 : f 5 = (.bool false) := hd 5 (by kernel_rfl)
                refine wanted_on rfl ?_
                simp only [putAll, Act.put, List.setIfInBounds_toArray, List.set_cons_zero, List.set_cons_succ, e2, e5] at hK ⊢
                go_simp
                exact hK _ _ _ rfl hG (Below.refl _ _) rfl
              · have e6 : f 6 = (.bool false) := hd 6 (by kernel_rfl)
                refine wanted_on rfl ?_
                simp only [putAll, Act.put, List.setIfInBounds_toArray, List.set_cons_zero, List.set_cons_succ, e6] at hK ⊢
                go_simp
                exact hK _ _ _ rfl hG (Below.refl _ _) rfl
              · have e7 : f 7 = (.bool false) := hd 7 (by kernel_rfl)
                refine wanted_on (by simp [Region.wanted, yielded, putAll, Act.put, List.setIfInBounds_toArray, List.set_cons_zero, List.set_cons_succ, e7]) ?_
                simp only [putAll, Act.put, List.setIfInBounds_toArray, List.set_cons_zero, List.set_cons_succ, e7] at hK ⊢
                go_simp
                exact hK _ _ _ rfl hG (Below.refl _ _) rfl
              · have e7 : f 7 = (.bool false) := hd 7 (by kernel_rfl)
                refine wanted_on (by simp [Region.wanted, yielded, putAll, Act.put, List.setIfInBounds_toArray, List.set_cons_zero, List.set_cons_succ, e7]) ?_
                simp only [putAll, Act.put, List.setIfInBounds_toArray, List.set_cons_zero, List.set_cons_succ, e7] at hK ⊢
                go_simp
                exact hK _ _ _ rfl hG (Below.refl _ _) rfl
              · have e7 : f 7 = (.bool false) := hd 7 (by kernel_rfl)
                have e9 : f 9 = (.int .i64 (-0)) := hd 9 (by kernel_rfl)
                refine wanted_on (by simp [Region.wanted, yielded, putAll, Act.put, List.setIfInBounds_toArray, List.set_cons_zero, List.set_cons_succ, e7, e9]) ?_
                simp only [putAll, Act.put, List.setIfInBounds_toArray, List.set_cons_zero, List.set_cons_succ, e7, e9] at hK ⊢
                go_simp
                exact hK _ _ _ rfl hG (Below.refl _ _) (by first | rfl | simp [isV, atR])
              · have e7 : f 7 = (.bool false) := hd 7 (by kernel_rfl)
                have e8 : f 8 = (.int .i64 0) := hd 8 (by kernel_rfl)
                have e10 : f 10 = (.int .i64 0) := hd 10 (by kernel_rfl)
                refine wanted_on (by simp [Region.wanted, yielded, putAll, Act.put, List.setIfInBounds_toArray, List.set_cons_zero, List.set_cons_succ, e7, e8, e10]) ?_
                simp only [putAll, Act.put, List.setIfInBounds_toArray, List.set_cons_zero, List.set_cons_succ, e7, e8, e10] at hK ⊢
                go_simp
                exact hK _ _ _ rfl hG (Below.refl _ _) (by first | rfl | simp [isV, atR])
              · have e7 : f 7 = (.bool false) := hd 7 (by kernel_rfl)
                have e11 : f 11 = (.bool false) := hd 11 (by kernel_rfl)
                refine wanted_on rfl ?_
                simp only [putAll, Act.put, List.setIfInBounds_toArray, List.set_cons_zero, List.set_cons_succ, e7, e11] at hK ⊢
                go_simp
                exact hK _ _ _ rfl hG (Below.refl _ _) rfl
              · have e12 : f 12 = (.bool false) := hd 12 (by kernel_rfl)
                refine wanted_on rfl ?_
                simp only [putAll, Act.put, List.setIfInBounds_toArray, List.set_cons_zero, List.set_cons_succ, e12] at hK ⊢
                go_simp
                exact hK _ _ _ rfl hG (Below.refl _ _) rfl
              · have e13 : f 13 = (.bool false) := hd 13 (by kernel_rfl)
                refine wanted_on (by simp [Region.wanted, yielded, putAll, Act.put, List.setIfInBounds_toArray, List.set_cons_zero, List.set_cons_succ, e13]) ?_
                simp only [putAll, Act.put, List.setIfInBounds_toArray, List.set_cons_zero, List.set_cons_succ, e13] at hK ⊢
                go_simp
                exact hK _ _ _ rfl hG (Below.refl _ _) rfl
              · have e13 : f 13 = (.bool false) := hd 13 (by kernel_rfl)
                have e14 : f 14 = (.int .i64 0) := hd 14 (by kernel_rfl)
                refine wanted_on (by simp [Region.wanted, yielded, putAll, Act.put, List.setIfInBounds_toArray, List.set_cons_zero, List.set_cons_succ, e13, e14]) ?_
                simp only [putAll, Act.put, List.setIfInBounds_toArray, List.set_cons_zero, List.set_cons_succ, e13, e14] at hK ⊢
                go_simp
                exact hK _ _ _ rfl hG (Below.refl _ _) rfl
              · have e13 : f 13 = (.bool false) := hd 13 (by kernel_rfl)
                have e15 : f 15 = (.bool true) := hd 15 (by kernel_rfl)
                refine wanted_on (by simp [Region.wanted, yielded, putAll, Act.put, List.setIfInBounds_toArray, List.set_cons_zero, List.set_cons_succ, e13, e15]) ?_
                simp only [putAll, Act.put, List.setIfInBounds_toArray, List.set_cons_zero, List.set_cons_succ, e13, e15] at hK ⊢
                go_simp
                exact hK _ _ _ rfl hG (Below.refl _ _) rfl
              · have e16 : f 16 = (.bool true) := hd 16 (by kernel_rfl)
                refine wanted_on (by simp [Region.wanted, yielded, putAll, Act.put, List.setIfInBounds_toArray, List.set_cons_zero, List.set_cons_succ, e16]) ?_
                simp only [putAll, Act.put, List.setIfInBounds_toArray, List.set_cons_zero, List.set_cons_succ, e16] at hK ⊢
                go_simp
                exact hK _ _ _ rfl hG (Below.refl _ _) rfl
              · have e16 : f 16 = (.bool true) := hd 16 (by kernel_rfl)
                have e17 : f 17 = (.int .i64 0) := hd 17 (by kernel_rfl)
                refine wanted_on (by simp [Region.wanted, yielded, putAll, Act.put, List.setIfInBounds_toArray, List.set_cons_zero, List.set_cons_succ, e16, e17]) ?_
                simp only [putAll, Act.put, List.setIfInBounds_toArray, List.set_cons_zero, List.set_cons_succ, e16, e17] at hK ⊢
                go_simp
                exact hK _ _ _ rfl hG (Below.refl _ _) rfl
              · have e16 : f 16 = (.bool true) := hd 16 (by kernel_rfl)
                obtain ⟨⟨c0, c1, c2, c3⟩, _⟩ := box4 ((HB.out _ (HG5.out.trans (hG.mono HG5.out.size))).1)
                refine wanted_on (by simp [Region.wanted, yielded, putAll, Act.put, List.setIfInBounds_toArray, List.set_cons_zero, List.set_cons_succ, e16]) ?_
                simp only [putAll, Act.put, List.setIfInBounds_toArray, List.set_cons_zero, List.set_cons_succ, e16] at hK ⊢
                go_simp
                exact hK _ _ _ rfl hG (Below.refl _ _) rfl
              · have e16 : f 16 = (.bool true) := hd 16 (by kernel_rfl)
                have e19 : f 19 = (vval x0 L0) := hd 19 (by kernel_rfl)
                refine wanted_on (by simp [Region.wanted, yielded, putAll, Act.put, List.setIfInBounds_toArray, List.set_cons_zero, List.set_cons_succ, e16, e19]) ?_
                simp only [putAll, Act.put, List.setIfInBounds_toArray, List.set_cons_zero, List.set_cons_succ, e16, e19] at hK ⊢
                go_simp
                refine (HO0.out _ _ (m0.below (HB.out _ (HG5.out.trans (hG.mono HG5.out.size))).2.2.2 (Nat.le_refl _))).mono ?_
                rintro e u1 ⟨V, rfl, h1, hb⟩
                exact hK _ _ _ rfl (hG.trans (hb.mono hG.size)) hb ⟨_, rfl, h1⟩
              · have e16 : f 16 = (.bool true) := hd 16 (by kernel_rfl)
                obtain ⟨⟨c0, c1, c2, c3⟩, _⟩ := box4 ((HB.out _ (HG5.out.trans (hG.mono HG5.out.size))).2.1)
                refine wanted_on (by simp [Region.wanted, yielded, putAll, Act.put, List.setIfInBounds_toArray, List.set_cons_zero, List.set_cons_succ, e16]) ?_
                simp only [putAll, Act.put, List.setIfInBounds_toArray, List.set_cons_zero, List.set_cons_succ, e16] at hK ⊢
                go_simp
                exact hK _ _ _ rfl hG (Below.refl _ _) rfl
              · have e16 : f 16 = (.bool true) := hd 16 (by kernel_rfl)
                have e21 : f 21 = (vval x1 L1) := hd 21 (by kernel_rfl)
                refine wanted_on (by simp [Region.wanted, yielded, putAll, Act.put, List.setIfInBounds_toArray, List.set_cons_zero, List.set_cons_succ, e16, e21]) ?_
                simp only [putAll, Act.put, List.setIfInBounds_toArray, List.set_cons_zero, List.set_cons_succ, e16, e21] at hK ⊢
                go_simp
                refine (HO1.out _ _ (m1.below (HB.out _ (HG5.out.trans (hG.mono HG5.out.size))).2.2.2 (Nat.le_refl _))).mono ?_
                rintro e u1 ⟨V, rfl, h1, hb⟩
                exact hK _ _ _ rfl (hG.trans (hb.mono hG.size)) hb ⟨_, rfl, h1⟩
              · have e16 : f 16 = (.bool true) := hd 16 (by kernel_rfl)
                obtain ⟨V20, e20, q20⟩ := hd 20 (by kernel_rfl)
                obtain ⟨V22, e22, q22⟩ := hd 22 (by kernel_rfl)
                refine wanted_on (by simp [Region.wanted, yielded, putAll, Act.put, List.setIfInBounds_toArray, List.set_cons_zero, List.set_cons_succ, e16, e20, e22]) ?_
                simp only [putAll, Act.put, List.setIfInBounds_toArray, List.set_cons_zero, List.set_cons_succ, e16, e20, e22] at hK ⊢
                go_simp
                refine (HSM.out V20 V22 u rfl q20 q22).mono ?_
                rintro e u1 ⟨rfl, hb⟩
                exact hK _ _ _ rfl (hG.trans (hb.mono hG.size)) hb rfl
              · have e16 : f 16 = (.bool true) := hd 16 (by kernel_rfl)
                have e18 : f 18 = (.bool true) := hd 18 (by kernel_rfl)
                have e23 : f 23 = (.bool true) := hd 23 (by kernel_rfl)
                refine wanted_on (by simp [Region.wanted, yielded, putAll, Act.put, List.setIfInBounds_toArray, List.set_cons_zero, List.set_cons_succ, e16, e18, e23]) ?_
                simp only [putAll, Act.put, List.setIfInBounds_toArray, List.set_cons_zero, List.set_cons_succ, e16, e18, e23] at hK ⊢
                go_simp
                exact hK _ _ _ rfl hG (Below.refl _ _) rfl
              · have e13 : f 13 = (.bool false) := hd 13 (by kernel_rfl)
                have e16 : f 16 = (.bool true) := hd 16 (by kernel_rfl)
                have e24 : f 24 = (.bool false) := hd 24 (by kernel_rfl)
                refine wanted_on (by simp [Region.wanted, yielded, putAll, Act.put, List.setIfInBounds_toArray, List.set_cons_zero, List.set_cons_succ, e13, e16, e24]) ?_
                simp only [putAll, Act.put, List.setIfInBounds_toArray, List.set_cons_zero, List.set_cons_succ, e13, e16, e24] at hK ⊢
                go_simp
                exact hK _ _ _ rfl hG (Below.refl _ _) rfl
              · have e13 : f 13 = (.bool false) := hd 13 (by kernel_rfl)
                have e25 : f 25 = (.bool false) := hd 25 (by kernel_rfl)
                refine wanted_on rfl ?_
                simp only [putAll, Act.put, List.setIfInBounds_toArray, List.set_cons_zero, List.set_cons_succ, e13, e25] at hK ⊢
                go_simp
                exact hK _ _ _ rfl hG (Below.refl _ _) rfl
            · intro f6 u6 hG hf
              have HBB : Hid _ := (HB.out _ (HG5.out.trans (hG.mono HG5.out.size))).2.2.2
              have e26 : f6 26 = .bool false := hf 26 (by decide)
              simp only [putAll, Act.put, List.setIfInBounds_toArray, List.set_cons_zero, List.set_cons_succ, e26]
              clear hf e26 hG HB HG1 HG2 HG3 HG4 HG5 HSM HO0 HO1 HO2
              rcases HC12.out with ⟨h12, rfl⟩ | ⟨rfl, rfl | rfl | rfl⟩
              · clear HC12 HC02 HT
                go_wp2_with fail
                go_ret
                exact ⟨rfl, HBB.out⟩
              · obtain ⟨rfl, hle, hiff⟩ := HT.out rfl rfl (by decide) (by decide)
                have h02 : r02 = (-1) := by rcases HC02.out with ⟨h, _⟩ | ⟨_, h⟩ <;> omega
                subst h02
                clear HC12 HC02 HT hle hiff
                go_wp2_with fail
                go_ret
                exact ⟨rfl, HBB.out⟩
              · obtain ⟨rfl, hle, hiff⟩ := HT.out rfl rfl (by decide) (by decide)
                have h02 : r02 = 0 := by rcases HC02.out with ⟨h, _⟩ | ⟨_, h⟩ <;> omega
                subst h02
                clear HC12 HC02 HT hle hiff
                go_wp2_with fail
                go_ret
                exact ⟨rfl, HBB.out⟩
              · clear HC12 HC02 HT
                go_wp2_with fail
                go_ret
                exact ⟨rfl, HBB.out⟩
          · clear HC01
            refine wp_grow [isV (.int .i64 (-1)), isV (.bool false), isV (.bool false), isV (.int .i64 0), isV (.int .i64 0), isV (.bool false), isV (.bool false), isV (.bool false), isV (.int .i64 1), isV (.int .i64 (-1)), isV (.int .i64 1), isV (.bool false), isV (.bool false), isV (.bool false), isV (.int .i64 0), isV (.bool true), isV (.bool true), isV (.int .i64 1), isV (.bool false), isV (vval x0 L0), isVal x0, isV (vval x1 L1), isVal x1, isV (.bool false), isV (.bool false), isV (.bool false), isV (.bool false)]
              ⟨stab_is _, stab_is _, stab_is _, stab_is _, stab_is _, stab_is _, stab_is _, stab_is _, stab_is _, stab_is _, stab_is _, stab_is _, stab_is _, stab_is _, stab_is _, stab_is _, stab_is _, stab_is _, stab_is _, stab_is _, stab_val _, stab_is _, stab_val _, stab_is _, stab_is _, stab_is _, stab_is _, trivial⟩ (by kernel_rfl) (by kernel_rfl) (by kernel_rfl) ?_ ?_
            · refine stepsOK_cons (fun f u hG hd K hK => ?_) (stepsOK_cons (fun f u hG hd K hK => ?_) (stepsOK_cons (fun f u hG hd K hK => ?_) (stepsOK_cons (fun f u hG hd K hK => ?_) (stepsOK_cons (fun f u hG hd K hK => ?_) (stepsOK_cons (fun f u hG hd K hK => ?_) (stepsOK_cons (fun f u hG hd K hK => ?_) (stepsOK_cons (fun f u hG hd K hK => ?_) (stepsOK_cons (fun f u hG hd K hK => ?_) (stepsOK_cons (fun f u hG hd K hK => ?_) (stepsOK_cons (fun f u hG hd K hK => ?_) (stepsOK_cons (fun f u hG hd K hK => ?_) (stepsOK_cons (fun f u hG hd K hK => ?_) (stepsOK_cons (fun f u hG hd K hK => ?_) (stepsOK_cons (fun f u hG hd K hK => ?_) (stepsOK_cons (fun f u hG hd K hK => ?_) (stepsOK_cons (fun f u hG hd K hK => ?_) (stepsOK_cons (fun f u hG hd K hK => ?_) (stepsOK_cons (fun f u hG hd K hK => ?_) (stepsOK_cons (fun f u hG hd K hK => ?_) (stepsOK_cons (fun f u hG hd K hK => ?_) (stepsOK_cons (fun f u hG hd K hK => ?_) (stepsOK_cons (fun f u hG hd K hK => ?_) (stepsOK_cons (fun f u hG hd K hK => ?_) (stepsOK_cons (fun f u hG hd K hK => ?_) (stepsOK_cons (fun f u hG hd K hK => ?_) (stepsOK_cons (fun f u hG hd K hK => ?_) stepsOK_nil))))))))))))))))))))))))))
              · refine wanted_on rfl ?_
                simp only [putAll, Act.put, List.setIfInBounds_toArray, List.set_cons_zero, List.set_cons_succ] at hK ⊢
                go_simp
                exact hK _ _ _ rfl hG (Below.refl _ _) rfl
              · have e0 : f 0 = (.int .i64 (-1)) := hd 0 (by kernel_rfl)
                refine wanted_on rfl ?_
                simp only [putAll, Act.put, List.setIfInBounds_toArray, List.set_cons_zero, List.set_cons_succ, e0] at hK ⊢
                go_simp
                exact hK _ _ _ rfl hG (Below.refl _ _) rfl
              · have e1 : f 1 = (.bool false) := hd 1 (by kernel_rfl)
                refine wanted_on rfl ?_
                simp only [putAll, Act.put, List.setIfInBounds_toArray, List.set_cons_zero, List.set_cons_succ, e1] at hK ⊢
                go_simp
                exact hK _ _ _ rfl hG (Below.refl _ _) rfl
              · have e2 : f 2 = (.bool false) := hd 2 (by kernel_rfl)
                refine wanted_on (by simp [Region.wanted, yielded, putAll, Act.put, List.setIfInBounds_toArray, List.set_cons_zero, List.set_cons_succ, e2]) ?_
                simp only [putAll, Act.put, List.setIfInBounds_toArray, List.set_cons_zero, List.set_cons_succ, e2] at hK ⊢
                go_simp
                exact hK _ _ _ rfl hG (Below.refl _ _) rfl
              · have e2 : f 2 = (.bool false) := hd 2 (by kernel_rfl)
                refine wanted_on (by simp [Region.wanted, yielded, putAll, Act.put, List.setIfInBounds_toArray, List.set_cons_zero, List.set_cons_succ, e2]) ?_
                simp only [putAll, Act.put, List.setIfInBounds_toArray, List.set_cons_zero, List.set_cons_succ, e2] at hK ⊢
                go_simp
                exact hK _ _ _ rfl hG (Below.refl _ _) rfl
              · have e2 : f 2 = (.bool false) := hd 2 (by kernel_rfl)
                have e3 : f 3 = (.int .i64 0) := hd 3 (by kernel_rfl)
                have e4 : f 4 = (.int .i64 0) := hd 4 (by kernel_rfl)
                refine wanted_on (by simp [Region.wanted, yielded, putAll, Act.put, List.setIfInBounds_toArray, List.set_cons_zero, List.set_cons_succ, e2, e3, e4]) ?_
                simp only [putAll, Act.put, List.setIfInBounds_toArray, List.set_cons_zero, List.set_cons_succ, e2, e3, e4] at hK ⊢
                go_simp
                exact hK _ _ _ rfl hG (Below.refl _ _) (by simp [isV, atR])
              · have e2 : f 2 = (.bool false) := hd 2 (by kernel_rfl)
                have e5 : f 5 = (.bool false) := hd 5 (by kernel_rfl)
                refine wanted_on rfl ?_
                simp only [putAll, Act.put, List.setIfInBounds_toArray, List.set_cons_zero, List.set_cons_succ, e2, e5] at hK ⊢
                go_simp
                exact hK _ _ _ rfl hG (Below.refl _ _) rfl
              · have e6 : f 6 = (.bool false) := hd 6 (by kernel_rfl)
                refine wanted_on rfl ?_
                simp only [putAll, Act.put, List.setIfInBounds_toArray, List.set_cons_zero, List.set_cons_succ, e6] at hK ⊢
                go_simp
                exact hK _ _ _ rfl hG (Below.refl _ _) rfl
              · have e7 : f 7 = (.bool false) := hd 7 (by kernel_rfl)
                refine wanted_on (by simp [Region.wanted, yielded, putAll, Act.put, List.setIfInBounds_toArray, List.set_cons_zero, List.set_cons_succ, e7]) ?_
                simp only [putAll, Act.put, List.setIfInBounds_toArray, List.set_cons_zero, List.set_cons_succ, e7] at hK ⊢
                go_simp
                exact hK _ _ _ rfl hG (Below.refl _ _) rfl
              · have e7 : f 7 = (.bool false) := hd 7 (by kernel_rfl)
                refine wanted_on (by simp [Region.wanted, yielded, putAll, Act.put, List.setIfInBounds_toArray, List.set_cons_zero, List.set_cons_succ, e7]) ?_
                simp only [putAll, Act.put, List.setIfInBounds_toArray, List.set_cons_zero, List.set_cons_succ, e7] at hK ⊢
                go_simp
                exact hK _ _ _ rfl hG (Below.refl _ _) rfl
              · have e7 : f 7 = (.bool false) := hd 7 (by kernel_rfl)
                have e9 : f 9 = (.int .i64 (-1)) := hd 9 (by kernel_rfl)
                refine wanted_on (by simp [Region.wanted, yielded, putAll, Act.put, List.setIfInBounds_toArray, List.set_cons_zero, List.set_cons_succ, e7, e9]) ?_
                simp only [putAll, Act.put, List.setIfInBounds_toArray, List.set_cons_zero, List.set_cons_succ, e7, e9] at hK ⊢
                go_simp
                exact hK _ _ _ rfl hG (Below.refl _ _) (by first | rfl | simp [isV, atR])
              · have e7 : f 7 = (.bool false) := hd 7 (by kernel_rfl)
                have e8 : f 8 = (.int .i64 1) := hd 8 (by kernel_rfl)
                have e10 : f 10 = (.int .i64 1) := hd 10 (by kernel_rfl)
                refine wanted_on (by simp [Region.wanted, yielded, putAll, Act.put, List.setIfInBounds_toArray, List.set_cons_zero, List.set_cons_succ, e7, e8, e10]) ?_
                simp only [putAll, Act.put, List.setIfInBounds_toArray, List.set_cons_zero, List.set_cons_succ, e7, e8, e10] at hK ⊢
                go_simp
                exact hK _ _ _ rfl hG (Below.refl _ _) (by first | rfl | simp [isV, atR])
              · have e7 : f 7 = (.bool false) := hd 7 (by kernel_rfl)
                have e11 : f 11 = (.bool false) := hd 11 (by kernel_rfl)
                refine wanted_on rfl ?_
                simp only [putAll, Act.put, List.setIfInBounds_toArray, List.set_cons_zero, List.set_cons_succ, e7, e11] at hK ⊢
                go_simp
                exact hK _ _ _ rfl hG (Below.refl _ _) rfl
              · have e12 : f 12 = (.bool false) := hd 12 (by kernel_rfl)
                refine wanted_on rfl ?_
                simp only [putAll, Act.put, List.setIfInBounds_toArray, List.set_cons_zero, List.set_cons_succ, e12] at hK ⊢
                go_simp
                exact hK _ _ _ rfl hG (Below.refl _ _) rfl
              · have e13 : f 13 = (.bool false) := hd 13 (by kernel_rfl)
                refine wanted_on (by simp [Region.wanted, yielded, putAll, Act.put, List.setIfInBounds_toArray, List.set_cons_zero, List.set_cons_succ, e13]) ?_
                simp only [putAll, Act.put, List.setIfInBounds_toArray, List.set_cons_zero, List.set_cons_succ, e13] at hK ⊢
                go_simp
                exact hK _ _ _ rfl hG (Below.refl _ _) rfl
              · have e13 : f 13 = (.bool false) := hd 13 (by kernel_rfl)
                have e14 : f 14 = (.int .i64 0) := hd 14 (by kernel_rfl)
                refine wanted_on (by simp [Region.wanted, yielded, putAll, Act.put, List.setIfInBounds_toArray, List.set_cons_zero, List.set_cons_succ, e13, e14]) ?_
                simp only [putAll, Act.put, List.setIfInBounds_toArray, List.set_cons_zero, List.set_cons_succ, e13, e14] at hK ⊢
                go_simp
                exact hK _ _ _ rfl hG (Below.refl _ _) rfl
              · have e13 : f 13 = (.bool false) := hd 13 (by kernel_rfl)
                have e15 : f 15 = (.bool true) := hd 15 (by kernel_rfl)
                refine wanted_on (by simp [Region.wanted, yielded, putAll, Act.put, List.setIfInBounds_toArray, List.set_cons_zero, List.set_cons_succ, e13, e15]) ?_
                simp only [putAll, Act.put, List.setIfInBounds_toArray, List.set_cons_zero, List.set_cons_succ, e13, e15] at hK ⊢
                go_simp
                exact hK _ _ _ rfl hG (Below.refl _ _) rfl
              · have e16 : f 16 = (.bool true) := hd 16 (by kernel_rfl)
                refine wanted_on (by simp [Region.wanted, yielded, putAll, Act.put, List.setIfInBounds_toArray, List.set_cons_zero, List.set_cons_succ, e16]) ?_
                simp only [putAll, Act.put, List.setIfInBounds_toArray, List.set_cons_zero, List.set_cons_succ, e16] at hK ⊢
                go_simp
                exact hK _ _ _ rfl hG (Below.refl _ _) rfl
              · have e16 : f 16 = (.bool true) := hd 16 (by kernel_rfl)
                have e17 : f 17 = (.int .i64 1) := hd 17 (by kernel_rfl)
                refine wanted_on (by simp [Region.wanted, yielded, putAll, Act.put, List.setIfInBounds_toArray, List.set_cons_zero, List.set_cons_succ, e16, e17]) ?_
                simp only [putAll, Act.put, List.setIfInBounds_toArray, List.set_cons_zero, List.set_cons_succ, e16, e17] at hK ⊢
                go_simp
                exact hK _ _ _ rfl hG (Below.refl _ _) rfl
              · have e16 : f 16 = (.bool true) := hd 16 (by kernel_rfl)
                obtain ⟨⟨c0, c1, c2, c3⟩, _⟩ := box4 ((HB.out _ (HG5.out.trans (hG.mono HG5.out.size))).1)
                refine wanted_on (by simp [Region.wanted, yielded, putAll, Act.put, List.setIfInBounds_toArray, List.set_cons_zero, List.set_cons_succ, e16]) ?_
                simp only [putAll, Act.put, List.setIfInBounds_toArray, List.set_cons_zero, List.set_cons_succ, e16] at hK ⊢
                go_simp
                exact hK _ _ _ rfl hG (Below.refl _ _) rfl
              · have e16 : f 16 = (.bool true) := hd 16 (by kernel_rfl)
                have e19 : f 19 = (vval x0 L0) := hd 19 (by kernel_rfl)
                refine wanted_on (by simp [Region.wanted, yielded, putAll, Act.put, List.setIfInBounds_toArray, List.set_cons_zero, List.set_cons_succ, e16, e19]) ?_
                simp only [putAll, Act.put, List.setIfInBounds_toArray, List.set_cons_zero, List.set_cons_succ, e16, e19] at hK ⊢
                go_simp
                refine (HO0.out _ _ (m0.below (HB.out _ (HG5.out.trans (hG.mono HG5.out.size))).2.2.2 (Nat.le_refl _))).mono ?_
                rintro e u1 ⟨V, rfl, h1, hb⟩
                exact hK _ _ _ rfl (hG.trans (hb.mono hG.size)) hb ⟨_, rfl, h1⟩
              · have e16 : f 16 = (.bool true) := hd 16 (by kernel_rfl)
                obtain ⟨⟨c0, c1, c2, c3⟩, _⟩ := box4 ((HB.out _ (HG5.out.trans (hG.mono HG5.out.size))).2.1)
                refine wanted_on (by simp [Region.wanted, yielded, putAll, Act.put, List.setIfInBounds_toArray, List.set_cons_zero, List.set_cons_succ, e16]) ?_
                simp only [putAll, Act.put, List.setIfInBounds_toArray, List.set_cons_zero, List.set_cons_succ, e16] at hK ⊢
                go_simp
                exact hK _ _ _ rfl hG (Below.refl _ _) rfl
              · have e16 : f 16 = (.bool true) := hd 16 (by kernel_rfl)
                have e21 : f 21 = (vval x1 L1) := hd 21 (by kernel_rfl)
                refine wanted_on (by simp [Region.wanted, yielded, putAll, Act.put, List.setIfInBounds_toArray, List.set_cons_zero, List.set_cons_succ, e16, e21]) ?_
                simp only [putAll, Act.put, List.setIfInBounds_toArray, List.set_cons_zero, List.set_cons_succ, e16, e21] at hK ⊢
                go_simp
                refine (HO1.out _ _ (m1.below (HB.out _ (HG5.out.trans (hG.mono HG5.out.size))).2.2.2 (Nat.le_refl _))).mono ?_
                rintro e u1 ⟨V, rfl, h1, hb⟩
                exact hK _ _ _ rfl (hG.trans (hb.mono hG.size)) hb ⟨_, rfl, h1⟩
              · have e16 : f 16 = (.bool true) := hd 16 (by kernel_rfl)
                obtain ⟨V20, e20, q20⟩ := hd 20 (by kernel_rfl)
                obtain ⟨V22, e22, q22⟩ := hd 22 (by kernel_rfl)
                refine wanted_on (by simp [Region.wanted, yielded, putAll, Act.put, List.setIfInBounds_toArray, List.set_cons_zero, List.set_cons_succ, e16, e20, e22]) ?_
                simp only [putAll, Act.put, List.setIfInBounds_toArray, List.set_cons_zero, List.set_cons_succ, e16, e20, e22] at hK ⊢
                go_simp
                refine (HSM.out V20 V22 u rfl q20 q22).mono ?_
                rintro e u1 ⟨rfl, hb⟩
                exact hK _ _ _ rfl (hG.trans (hb.mono hG.size)) hb rfl
              · have e16 : f 16 = (.bool true) := hd 16 (by kernel_rfl)
                have e18 : f 18 = (.bool false) := hd 18 (by kernel_rfl)
                have e23 : f 23 = (.bool false) := hd 23 (by kernel_rfl)
                refine wanted_on (by simp [Region.wanted, yielded, putAll, Act.put, List.setIfInBounds_toArray, List.set_cons_zero, List.set_cons_succ, e16, e18, e23]) ?_
                simp only [putAll, Act.put, List.setIfInBounds_toArray, List.set_cons_zero, List.set_cons_succ, e16, e18, e23] at hK ⊢
                go_simp
                exact hK _ _ _ rfl hG (Below.refl _ _) rfl
              · have e13 : f 13 = (.bool false) := hd 13 (by kernel_rfl)
                have e16 : f 16 = (.bool true) := hd 16 (by kernel_rfl)
                have e24 : f 24 = (.bool false) := hd 24 (by kernel_rfl)
                refine wanted_on (by simp [Region.wanted, yielded, putAll, Act.put, List.setIfInBounds_toArray, List.set_cons_zero, List.set_cons_succ, e13, e16, e24]) ?_
                simp only [putAll, Act.put, List.setIfInBounds_toArray, List.set_cons_zero, List.set_cons_succ, e13, e16, e24] at hK ⊢
                go_simp
                exact hK _ _ _ rfl hG (Below.refl _ _) rfl
              · have e13 : f 13 = (.bool false) := hd 13 (by kernel_rfl)
                have e25 : f 25 = (.bool false) := hd 25 (by kernel_rfl)
                refine wanted_on rfl ?_
                simp only [putAll, Act.put, List.setIfInBounds_toArray, List.set_cons_zero, List.set_cons_succ, e13, e25] at hK ⊢
                go_simp
                exact hK _ _ _ rfl hG (Below.refl _ _) rfl
            · intro f6 u6 hG hf
              have HBB : Hid _ := (HB.out _ (HG5.out.trans (hG.mono HG5.out.size))).2.2.2
              have e26 : f6 26 = .bool false := hf 26 (by decide)
              simp only [putAll, Act.put, List.setIfInBounds_toArray, List.set_cons_zero, List.set_cons_succ, e26]
              clear hf e26 hG HB HG1 HG2 HG3 HG4 HG5 HSM HO0 HO1 HO2
              rcases HC12.out with ⟨h12, rfl⟩ | ⟨rfl, _⟩
              · clear HC12 HC02 HT
                go_wp2_with fail
                go_ret
                exact ⟨rfl, HBB.out⟩
              · clear HC12 HC02 HT
                go_wp2_with fail
                go_ret
                exact ⟨rfl, HBB.out⟩

theorem contract (H : Type) (enc : TypeId × Value → H) (W : World) (base : Nat) (args : Array Value) (ds gs : List (DataW H)) (before : List MemPlace)
    (hval : ∀ (j : Nat) t v, Try.f3.params[j]? = some t → args[j]? = some v → Value.okWide Try.prog W .any base t v)
    (hW : DataW.Whole enc Try.prog Try.f3.params.toList Rows.valueOrderlySpec.vars false W args.toList ds gs before)
    (hsz : (DataW.weightsEach Try.prog (Try.f3.params.toList ++ Rows.valueOrderlySpec.plain.varTypes Try.prog) (ds ++ gs)).all (· ≤ reachBytes) = true) :
    Calls Try.prog 3 args W fun e W' => ∃ v, e = .returned v ∧ Rows.valueOrderlySpec.post enc Try.prog Try.f3 false true false false W args v W' := by
  have hW' := hW
  obtain ⟨p, q, hA0, hV, rfl, hfz, hnd⟩ := hW
  have hA : DataW.TrodAll enc Try.prog W 0 (fun _ => true) true Try.f3.params.toList args.toList ds p := hA0
  rw [Try.params3] at hA hval hsz
  obtain ⟨v0, vs0, d0, ds0, p0, q0, hargs, rfl, rfl, h0, r0⟩ := trodAll_cons hA
  obtain ⟨v1, vs1, d1, ds1, p1, q1, rfl, rfl, rfl, h1, r1⟩ := trodAll_cons r0
  obtain ⟨v2, vs2, d2, ds2, p2, q2, rfl, rfl, rfl, h2, r2⟩ := trodAll_cons r1
  obtain ⟨rfl, rfl, rfl⟩ := trodAll_nil r2
  obtain rfl : args = #[v0, v1, v2] := by cases args; simp_all
  obtain ⟨rfl, rfl⟩ := trodVars_none hV
  obtain ⟨x0, L0, rfl, i0, m0⟩ := vcame_of (j := 0) (hval 0 24 v0 rfl rfl) h0 hsz rfl rfl
  obtain ⟨x1, L1, rfl, i1, m1⟩ := vcame_of (j := 1) (hval 1 24 v1 rfl rfl) h1 hsz rfl rfl
  obtain ⟨x2, L2, rfl, i2, m2⟩ := vcame_of (j := 2) (hval 2 24 v2 rfl rfl) h2 hsz rfl rfl
  clear hA0
  simp only [List.append_nil] at hW'
  have hlt0 : ∀ x ∈ p0, x.block < W.heap.size := fun x hx => hW'.lt x (by simp [hx])
  have hlt1 : ∀ x ∈ p1, x.block < W.heap.size := fun x hx => hW'.lt x (by simp [hx])
  have hlt2 : ∀ x ∈ p2, x.block < W.heap.size := fun x hx => hW'.lt x (by simp [hx])
  refine (walk x0 L0 x1 L1 x2 L2 W i0 m0 i1 m1 i2 m2 ).mono fun e W' ⟨he, bel⟩ => ?_
  subst he
  exact ⟨_, rfl, _, _, _, [], p0 ++ (p1 ++ (p2 ++ [])), [], hW', trodAll_mk1 (shut_bool Try.underlying4 _), (trodAll_cons_mk (Below.trod (by kernel_rfl) (by kernel_rfl) (of_decide_eq_true (by kernel_rfl)) h0 bel hlt0) (trodAll_cons_mk (Below.trod (by kernel_rfl) (by kernel_rfl) (of_decide_eq_true (by kernel_rfl)) h1 bel hlt1) (trodAll_cons_mk (Below.trod (by kernel_rfl) (by kernel_rfl) (of_decide_eq_true (by kernel_rfl)) h2 bel hlt2) trodAll_mk0))), rfl, bel.frame _, fun h => by cases h⟩

set_option maxRecDepth 100000 in
theorem lifted (os : Os) (started : os.Started) (H : Type) (enc : TypeId × Value → H) :
    ReturnsInHanded {} Try.checked os 3 .any (Rows.valueOrderlySpec.pre6 enc Try.prog Try.f3 Rows.valueOrderlyRow.domain false) (Rows.valueOrderlySpec.post enc Try.prog Try.f3 false true false false) := by
  refine returnsInHanded_of_change_sized (C := Try.checked) own started (by kernel_rfl) Try.func3
    (ChangeSpec.witness6 (enc := enc) (C := Try.checked) false ⟨#[], #[.agg #[.int .i64 0, .int .i64 0, .string ByteArray.empty, .slice none 0 0], .agg #[.int .i64 0, .int .i64 0, .string ByteArray.empty, .slice none 0 0], .agg #[.int .i64 0, .int .i64 0, .string ByteArray.empty, .slice none 0 0]], []⟩ 8 (by kernel_rfl) (by kernel_rfl) (by kernel_rfl) (by kernel_rfl)) ?_
  intro W base args ds gs before hval0 hW hcnd hsz _
  exact contract H enc W base args ds gs before hval0 hW hsz

theorem proved : Rows.ValueOrderlySaid :=
  OpenClaim.holds_of_wide 3 Try.f3 rfl rfl rfl rfl rfl rfl rfl ⟨rfl, rfl, rfl, rfl, rfl⟩ rfl rfl rfl rfl rfl (by kernel_rfl) Try.func3 (by kernel_rfl)
    (of_decide_eq_true (by kernel_rfl)) (by unfold Func.isWrapper; first | (rw [if_pos (by decide +kernel)]; kernel_rfl) | (rw [if_neg (by decide +kernel)]; exact ⟨rfl, rfl⟩))
    (fun os started H enc _ => lifted os started H enc)
#print axioms proved
end Go.Proofs.Ytjfmhppgjhgdaab.valueOrderly
