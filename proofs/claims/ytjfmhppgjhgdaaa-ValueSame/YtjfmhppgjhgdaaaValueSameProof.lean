/-
  For all pairs of values that come in, value.Same answers exactly what P6.4 says, and each value is the same as itself: the law's function returns true.
-/
import Derived.Test.YtjfmhppgjhgdaaaVsame1
import Derived.Test.YtjfmhppgjhgdaaaVcame
namespace Go.Proofs.Ytjfmhppgjhgdaaa.valueSame
open Go.ChangeShapes Go.WideShapes Go.ChangeAt Go.RowKit
open Go.WideMaps Go.WideElems
open Go.ChangeMaps (open_string shut_string)
set_option linter.unusedVariables false

theorem own : ownKnob Try.prog.godebug = none := by kernel_rfl

set_option maxHeartbeats 8000000 in
theorem walk (x0 : Vv) (L0 : Value) (x1 : Vv) (L1 : Value) (w : World) (i0 : VIn x0) (m0 : ILies w L0 x0.l) (i1 : VIn x1) (m1 : ILies w L1 x1.l)   :
    Calls Try.prog 4 #[vval x0 L0, vval x1 L1] w fun e w' => e = .returned (.bool true) ∧ Below w.heap.size w w' := by
  have HO0 : Hid (∀ (L : Value) (u : World), ILies u L x0.l → Calls Try.prog 9 #[vval x0 L] u fun e w' => ∃ L', e = .returned (vval x0 L') ∧ ILies w' L' x0.l ∧ Below u.heap.size u w') := fun L u h => own_own x0 L u i0 h
  have HO1 : Hid (∀ (L : Value) (u : World), ILies u L x1.l → Calls Try.prog 9 #[vval x1 L] u fun e w' => ∃ L', e = .returned (vval x1 L') ∧ ILies w' L' x1.l ∧ Below u.heap.size u w') := fun L u h => own_own x1 L u i1 h
  have HB : Hid (∀ u, Below ((w.alloc (.cells #[.int .i64 x0.kind, .int .i64 x0.n, .string x0.s, L0] 24)).alloc (.cells #[.int .i64 x1.kind, .int .i64 x1.n, .string x1.s, L1] 24)).heap.size ((w.alloc (.cells #[.int .i64 x0.kind, .int .i64 x0.n, .string x0.s, L0] 24)).alloc (.cells #[.int .i64 x1.kind, .int .i64 x1.n, .string x1.s, L1] 24)) u → u.heap[w.heap.size]? = some (.cells #[.int .i64 x0.kind, .int .i64 x0.n, .string x0.s, L0] 24) ∧ u.heap[w.heap.size + 1]? = some (.cells #[.int .i64 x1.kind, .int .i64 x1.n, .string x1.s, L1] 24) ∧ Below w.heap.size w u) := fun u h => ⟨(two_boxes h).1, (two_boxes h).2.1, (two_boxes h).2.2.2⟩
  have HV0 : Hid (∀ V V' u, ILies u V x0.l → ILies u V' x1.l → Calls Try.prog 11 #[vval x0 V, vval x1 V'] u fun e w' => e = .returned (.bool (sameV x0 x1)) ∧ Below u.heap.size u w') := fun V V' u h1 h2 => own_same x0 x1 V V' u i0 i1 h1 h2
  have HR0 : Hid (∀ u, ILies u L0 x0.l → ILies u L1 x1.l → Calls Try.prog 12 #[vval x0 L0, vval x1 L1] u fun e w' => e = .returned (.bool (sameV x0 x1)) ∧ Below u.heap.size u w') := fun u h1 h2 => ref_same x0 x1 L0 L1 u i0 i1 h1 h2
  have HX : Hid (∃ r, sameV x0 x1 = r) := ⟨_, rfl⟩
  obtain ⟨r, hr⟩ := HX.out
  clear HX
  have HV : Hid _ := HV0.out
  have HR : Hid _ := HR0.out
  rw [hr] at HV HR
  have HS : Hid (∀ V V' u, ILies u V x0.l → ILies u V' x0.l → Calls Try.prog 11 #[vval x0 V, vval x0 V'] u fun e w' => e = .returned (.bool true) ∧ Below u.heap.size u w') := fun V V' u h1 h2 => by
    have h := own_same x0 x0 V V' u i0 i0 h1 h2
    rwa [show sameV x0 x0 = true by simp [sameV]] at h
  clear hr HV0 HR0
  unfold vval
  go_enter Try.func4, Try.ntmps4
  go_wp2_with fail
  refine wp_grow [isV (vval x0 L0), isVal x0, isV (vval x1 L1), isVal x1, isV (.bool r), isV (vval x0 L0), isV (vval x1 L1), isV (.bool r), isV (.bool true), isV (.bool true), isV (vval x0 L0), isVal x0, isV (vval x0 L0), isVal x0, isV (.bool true), isV (.bool true), isV (.bool true)]
    ⟨stab_is _, stab_val _, stab_is _, stab_val _, stab_is _, stab_is _, stab_is _, stab_is _, stab_is _, stab_is _, stab_is _, stab_val _, stab_is _, stab_val _, stab_is _, stab_is _, stab_is _, trivial⟩ (by kernel_rfl) (by kernel_rfl) (by kernel_rfl) ?_ ?_
  · refine stepsOK_cons (fun f u hG hd K hK => ?_) (stepsOK_cons (fun f u hG hd K hK => ?_) (stepsOK_cons (fun f u hG hd K hK => ?_) (stepsOK_cons (fun f u hG hd K hK => ?_) (stepsOK_cons (fun f u hG hd K hK => ?_) (stepsOK_cons (fun f u hG hd K hK => ?_) (stepsOK_cons (fun f u hG hd K hK => ?_) (stepsOK_cons (fun f u hG hd K hK => ?_) (stepsOK_cons (fun f u hG hd K hK => ?_) (stepsOK_cons (fun f u hG hd K hK => ?_) (stepsOK_cons (fun f u hG hd K hK => ?_) (stepsOK_cons (fun f u hG hd K hK => ?_) (stepsOK_cons (fun f u hG hd K hK => ?_) (stepsOK_cons (fun f u hG hd K hK => ?_) (stepsOK_cons (fun f u hG hd K hK => ?_) (stepsOK_cons (fun f u hG hd K hK => ?_) (stepsOK_cons (fun f u hG hd K hK => ?_) stepsOK_nil))))))))))))))))
    · obtain ⟨⟨c0, c1, c2, c3⟩, _⟩ := box4 ((HB.out _ hG).1)
      refine wanted_on rfl ?_
      simp only [putAll, Act.put, List.setIfInBounds_toArray, List.set_cons_zero, List.set_cons_succ] at hK ⊢
      go_simp
      exact hK _ _ _ rfl hG (Below.refl _ _) rfl
    · have e0 : f 0 = (vval x0 L0) := hd 0 (by kernel_rfl)
      refine wanted_on rfl ?_
      simp only [putAll, Act.put, List.setIfInBounds_toArray, List.set_cons_zero, List.set_cons_succ, e0] at hK ⊢
      go_simp
      refine (HO0.out _ _ (m0.below (HB.out _ hG).2.2 (Nat.le_refl _))).mono ?_
      rintro e u1 ⟨V, rfl, h1, hb⟩
      exact hK _ _ _ rfl (hG.trans (hb.mono hG.size)) hb ⟨_, rfl, h1⟩
    · obtain ⟨⟨c0, c1, c2, c3⟩, _⟩ := box4 ((HB.out _ hG).2.1)
      refine wanted_on rfl ?_
      simp only [putAll, Act.put, List.setIfInBounds_toArray, List.set_cons_zero, List.set_cons_succ] at hK ⊢
      go_simp
      exact hK _ _ _ rfl hG (Below.refl _ _) rfl
    · have e2 : f 2 = (vval x1 L1) := hd 2 (by kernel_rfl)
      refine wanted_on rfl ?_
      simp only [putAll, Act.put, List.setIfInBounds_toArray, List.set_cons_zero, List.set_cons_succ, e2] at hK ⊢
      go_simp
      refine (HO1.out _ _ (m1.below (HB.out _ hG).2.2 (Nat.le_refl _))).mono ?_
      rintro e u1 ⟨V, rfl, h1, hb⟩
      exact hK _ _ _ rfl (hG.trans (hb.mono hG.size)) hb ⟨_, rfl, h1⟩
    · obtain ⟨V1, e1, q1⟩ := hd 1 (by kernel_rfl)
      obtain ⟨V3, e3, q3⟩ := hd 3 (by kernel_rfl)
      refine wanted_on rfl ?_
      simp only [putAll, Act.put, List.setIfInBounds_toArray, List.set_cons_zero, List.set_cons_succ, e1, e3] at hK ⊢
      go_simp
      refine (HV.out V1 V3 u q1 q3).mono ?_
      rintro e u1 ⟨rfl, hb⟩
      exact hK _ _ _ rfl (hG.trans (hb.mono hG.size)) hb rfl
    · obtain ⟨⟨c0, c1, c2, c3⟩, _⟩ := box4 ((HB.out _ hG).1)
      refine wanted_on rfl ?_
      simp only [putAll, Act.put, List.setIfInBounds_toArray, List.set_cons_zero, List.set_cons_succ] at hK ⊢
      go_simp
      exact hK _ _ _ rfl hG (Below.refl _ _) rfl
    · obtain ⟨⟨c0, c1, c2, c3⟩, _⟩ := box4 ((HB.out _ hG).2.1)
      refine wanted_on rfl ?_
      simp only [putAll, Act.put, List.setIfInBounds_toArray, List.set_cons_zero, List.set_cons_succ] at hK ⊢
      go_simp
      exact hK _ _ _ rfl hG (Below.refl _ _) rfl
    · have e5 : f 5 = (vval x0 L0) := hd 5 (by kernel_rfl)
      have e6 : f 6 = (vval x1 L1) := hd 6 (by kernel_rfl)
      refine wanted_on rfl ?_
      simp only [putAll, Act.put, List.setIfInBounds_toArray, List.set_cons_zero, List.set_cons_succ, e5, e6] at hK ⊢
      go_simp
      refine (HR.out u (m0.below (HB.out _ hG).2.2 (Nat.le_refl _)) (m1.below (HB.out _ hG).2.2 (Nat.le_refl _))).mono ?_
      rintro e u1 ⟨rfl, hb⟩
      exact hK _ _ _ rfl (hG.trans (hb.mono hG.size)) hb rfl
    · have e4 : f 4 = (.bool r) := hd 4 (by kernel_rfl)
      have e7 : f 7 = (.bool r) := hd 7 (by kernel_rfl)
      refine wanted_on rfl ?_
      simp only [putAll, Act.put, List.setIfInBounds_toArray, List.set_cons_zero, List.set_cons_succ, e4, e7] at hK ⊢
      go_simp
      exact hK _ _ _ rfl hG (Below.refl _ _) (by simp [isV, atR])
    · have e8 : f 8 = (.bool true) := hd 8 (by kernel_rfl)
      refine wanted_on rfl ?_
      simp only [putAll, Act.put, List.setIfInBounds_toArray, List.set_cons_zero, List.set_cons_succ, e8] at hK ⊢
      go_simp
      exact hK _ _ _ rfl hG (Below.refl _ _) rfl
    · have e9 : f 9 = (.bool true) := hd 9 (by kernel_rfl)
      obtain ⟨⟨c0, c1, c2, c3⟩, _⟩ := box4 ((HB.out _ hG).1)
      refine wanted_on (by simp [Region.wanted, yielded, putAll, Act.put, List.setIfInBounds_toArray, List.set_cons_zero, List.set_cons_succ, e9]) ?_
      simp only [putAll, Act.put, List.setIfInBounds_toArray, List.set_cons_zero, List.set_cons_succ, e9] at hK ⊢
      go_simp
      exact hK _ _ _ rfl hG (Below.refl _ _) rfl
    · have e9 : f 9 = (.bool true) := hd 9 (by kernel_rfl)
      have e10 : f 10 = (vval x0 L0) := hd 10 (by kernel_rfl)
      refine wanted_on (by simp [Region.wanted, yielded, putAll, Act.put, List.setIfInBounds_toArray, List.set_cons_zero, List.set_cons_succ, e9, e10]) ?_
      simp only [putAll, Act.put, List.setIfInBounds_toArray, List.set_cons_zero, List.set_cons_succ, e9, e10] at hK ⊢
      go_simp
      refine (HO0.out _ _ (m0.below (HB.out _ hG).2.2 (Nat.le_refl _))).mono ?_
      rintro e u1 ⟨V, rfl, h1, hb⟩
      exact hK _ _ _ rfl (hG.trans (hb.mono hG.size)) hb ⟨_, rfl, h1⟩
    · have e9 : f 9 = (.bool true) := hd 9 (by kernel_rfl)
      obtain ⟨⟨c0, c1, c2, c3⟩, _⟩ := box4 ((HB.out _ hG).1)
      refine wanted_on (by simp [Region.wanted, yielded, putAll, Act.put, List.setIfInBounds_toArray, List.set_cons_zero, List.set_cons_succ, e9]) ?_
      simp only [putAll, Act.put, List.setIfInBounds_toArray, List.set_cons_zero, List.set_cons_succ, e9] at hK ⊢
      go_simp
      exact hK _ _ _ rfl hG (Below.refl _ _) rfl
    · have e9 : f 9 = (.bool true) := hd 9 (by kernel_rfl)
      have e12 : f 12 = (vval x0 L0) := hd 12 (by kernel_rfl)
      refine wanted_on (by simp [Region.wanted, yielded, putAll, Act.put, List.setIfInBounds_toArray, List.set_cons_zero, List.set_cons_succ, e9, e12]) ?_
      simp only [putAll, Act.put, List.setIfInBounds_toArray, List.set_cons_zero, List.set_cons_succ, e9, e12] at hK ⊢
      go_simp
      refine (HO0.out _ _ (m0.below (HB.out _ hG).2.2 (Nat.le_refl _))).mono ?_
      rintro e u1 ⟨V, rfl, h1, hb⟩
      exact hK _ _ _ rfl (hG.trans (hb.mono hG.size)) hb ⟨_, rfl, h1⟩
    · have e9 : f 9 = (.bool true) := hd 9 (by kernel_rfl)
      obtain ⟨V11, e11, q11⟩ := hd 11 (by kernel_rfl)
      obtain ⟨V13, e13, q13⟩ := hd 13 (by kernel_rfl)
      refine wanted_on (by simp [Region.wanted, yielded, putAll, Act.put, List.setIfInBounds_toArray, List.set_cons_zero, List.set_cons_succ, e9, e11, e13]) ?_
      simp only [putAll, Act.put, List.setIfInBounds_toArray, List.set_cons_zero, List.set_cons_succ, e9, e11, e13] at hK ⊢
      go_simp
      refine (HS.out V11 V13 u q11 q13).mono ?_
      rintro e u1 ⟨rfl, hb⟩
      exact hK _ _ _ rfl (hG.trans (hb.mono hG.size)) hb rfl
    · have e9 : f 9 = (.bool true) := hd 9 (by kernel_rfl)
      have e14 : f 14 = (.bool true) := hd 14 (by kernel_rfl)
      refine wanted_on rfl ?_
      simp only [putAll, Act.put, List.setIfInBounds_toArray, List.set_cons_zero, List.set_cons_succ, e9, e14] at hK ⊢
      go_simp
      exact hK _ _ _ rfl hG (Below.refl _ _) rfl
    · have e15 : f 15 = (.bool true) := hd 15 (by kernel_rfl)
      refine wanted_on rfl ?_
      simp only [putAll, Act.put, List.setIfInBounds_toArray, List.set_cons_zero, List.set_cons_succ, e15] at hK ⊢
      go_simp
      exact hK _ _ _ rfl hG (Below.refl _ _) rfl
  · intro f u hG hf
    have e16 : f 16 = .bool true := hf 16 (by decide)
    have HBB : Hid _ := (HB.out _ hG).2.2
    simp only [putAll, Act.put, List.setIfInBounds_toArray, List.set_cons_zero, List.set_cons_succ, e16]
    clear hf e16 hG HB
    go_wp2_with fail
    go_ret
    exact ⟨rfl, HBB.out⟩

theorem contract (H : Type) (enc : TypeId × Value → H) (W : World) (base : Nat) (args : Array Value) (ds gs : List (DataW H)) (before : List MemPlace)
    (hval : ∀ (j : Nat) t v, Try.f4.params[j]? = some t → args[j]? = some v → Value.okWide Try.prog W .any base t v)
    (hW : DataW.Whole enc Try.prog Try.f4.params.toList Rows.valueSameSpec.vars false W args.toList ds gs before)
    (hsz : (DataW.weightsEach Try.prog (Try.f4.params.toList ++ Rows.valueSameSpec.plain.varTypes Try.prog) (ds ++ gs)).all (· ≤ reachBytes) = true) :
    Calls Try.prog 4 args W fun e W' => ∃ v, e = .returned v ∧ Rows.valueSameSpec.post enc Try.prog Try.f4 false true false false W args v W' := by
  have hW' := hW
  obtain ⟨p, q, hA0, hV, rfl, hfz, hnd⟩ := hW
  have hA : DataW.TrodAll enc Try.prog W 0 (fun _ => true) true Try.f4.params.toList args.toList ds p := hA0
  rw [Try.params4] at hA hval hsz
  obtain ⟨v0, vs0, d0, ds0, p0, q0, hargs, rfl, rfl, h0, r0⟩ := trodAll_cons hA
  obtain ⟨v1, vs1, d1, ds1, p1, q1, rfl, rfl, rfl, h1, r1⟩ := trodAll_cons r0
  obtain ⟨rfl, rfl, rfl⟩ := trodAll_nil r1
  obtain rfl : args = #[v0, v1] := by cases args; simp_all
  obtain ⟨rfl, rfl⟩ := trodVars_none hV
  obtain ⟨x0, L0, rfl, i0, m0⟩ := vcame_of (j := 0) (hval 0 24 v0 rfl rfl) h0 hsz rfl rfl
  obtain ⟨x1, L1, rfl, i1, m1⟩ := vcame_of (j := 1) (hval 1 24 v1 rfl rfl) h1 hsz rfl rfl
  clear hA0
  simp only [List.append_nil] at hW'
  have hlt0 : ∀ x ∈ p0, x.block < W.heap.size := fun x hx => hW'.lt x (by simp [hx])
  have hlt1 : ∀ x ∈ p1, x.block < W.heap.size := fun x hx => hW'.lt x (by simp [hx])
  refine (walk x0 L0 x1 L1 W i0 m0 i1 m1 ).mono fun e W' ⟨he, bel⟩ => ?_
  subst he
  exact ⟨_, rfl, _, _, _, [], p0 ++ (p1 ++ []), [], hW', trodAll_mk1 (shut_bool Try.underlying4 _), (trodAll_cons_mk (Below.trod (by kernel_rfl) (by kernel_rfl) (of_decide_eq_true (by kernel_rfl)) h0 bel hlt0) (trodAll_cons_mk (Below.trod (by kernel_rfl) (by kernel_rfl) (of_decide_eq_true (by kernel_rfl)) h1 bel hlt1) trodAll_mk0)), rfl, bel.frame _, fun h => by cases h⟩

set_option maxRecDepth 100000 in
theorem lifted (os : Os) (started : os.Started) (H : Type) (enc : TypeId × Value → H) :
    ReturnsInHanded {} Try.checked os 4 .any (Rows.valueSameSpec.pre6 enc Try.prog Try.f4 Rows.valueSameRow.domain false) (Rows.valueSameSpec.post enc Try.prog Try.f4 false true false false) := by
  refine returnsInHanded_of_change_sized (C := Try.checked) own started (by kernel_rfl) Try.func4
    (ChangeSpec.witness6 (enc := enc) (C := Try.checked) false ⟨#[], #[.agg #[.int .i64 0, .int .i64 0, .string ByteArray.empty, .slice none 0 0], .agg #[.int .i64 0, .int .i64 0, .string ByteArray.empty, .slice none 0 0]], []⟩ 8 (by kernel_rfl) (by kernel_rfl) (by kernel_rfl) (by kernel_rfl)) ?_
  intro W base args ds gs before hval0 hW hcnd hsz _
  exact contract H enc W base args ds gs before hval0 hW hsz

theorem proved : Rows.ValueSameSaid :=
  OpenClaim.holds_of_wide 4 Try.f4 rfl rfl rfl rfl rfl rfl rfl ⟨rfl, rfl, rfl, rfl, rfl⟩ rfl rfl rfl rfl rfl (by kernel_rfl) Try.func4 (by kernel_rfl)
    (of_decide_eq_true (by kernel_rfl)) (by unfold Func.isWrapper; first | (rw [if_pos (by decide +kernel)]; kernel_rfl) | (rw [if_neg (by decide +kernel)]; exact ⟨rfl, rfl⟩))
    (fun os started H enc _ => lifted os started H enc)
#print axioms proved
end Go.Proofs.Ytjfmhppgjhgdaaa.valueSame
