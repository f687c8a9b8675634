/-
  For every value that comes in, value.May tells whether a panic may have it (P6.5): the law's function returns true.
-/
import Derived.Test.YtjfmhppgjhgdaaaVown
import Derived.Test.YtjfmhppgjhgdaaaVcame
namespace Go.Proofs.Ytjfmhppgjhgdaaa.valueMay
open Go.ChangeShapes Go.WideShapes Go.ChangeAt Go.RowKit
open Go.WideMaps Go.WideElems
open Go.ChangeMaps (open_string shut_string)
set_option linter.unusedVariables false

theorem own : ownKnob Try.prog.godebug = none := by kernel_rfl

set_option maxHeartbeats 8000000 in
theorem walk (x0 : Vv) (L0 : Value) (w : World) (i0 : VIn x0) (m0 : ILies w L0 x0.l)   :
    Calls Try.prog 5 #[vval x0 L0] w fun e w' => e = .returned (.bool true) ∧ Below w.heap.size w w' := by
  have HO : Hid (∀ (L : Value) (u : World), ILies u L x0.l → Calls Try.prog 9 #[vval x0 L] u fun e w' => ∃ L', e = .returned (vval x0 L') ∧ ILies w' L' x0.l ∧ Below u.heap.size u w') := fun L u h => own_own x0 L u i0 h
  unfold vval
  go_enter Try.func5, Try.ntmps5
  go_wp2_with fail
  refine wp_grow [isV (vval x0 L0), isVal x0, isV (.bool (mayV x0)), isV (vval x0 L0), isV (.bool (mayV x0)), isV (.bool true), isV (.bool true), isV (vval ⟨5, 0, ⟨#[]⟩, []⟩ (.slice none 0 0)), isV (.bool true), isV (.bool true), isV (.bool true)]
    ⟨stab_is _, stab_val _, stab_is _, stab_is _, stab_is _, stab_is _, stab_is _, stab_is _, stab_is _, stab_is _, stab_is _, trivial⟩ (by kernel_rfl) (by kernel_rfl) (by kernel_rfl) ?_ ?_
  · refine stepsOK_cons (fun f u hG hd K hK => ?_) (stepsOK_cons (fun f u hG hd K hK => ?_) (stepsOK_cons (fun f u hG hd K hK => ?_) (stepsOK_cons (fun f u hG hd K hK => ?_) (stepsOK_cons (fun f u hG hd K hK => ?_) (stepsOK_cons (fun f u hG hd K hK => ?_) (stepsOK_cons (fun f u hG hd K hK => ?_) (stepsOK_cons (fun f u hG hd K hK => ?_) (stepsOK_cons (fun f u hG hd K hK => ?_) (stepsOK_cons (fun f u hG hd K hK => ?_) (stepsOK_cons (fun f u hG hd K hK => ?_) stepsOK_nil))))))))))
    · obtain ⟨⟨c0, c1, c2, c3⟩, _⟩ := box4 (box_stays hG)
      refine wanted_on rfl ?_
      simp only [putAll, Act.put, List.setIfInBounds_toArray, List.set_cons_zero, List.set_cons_succ] at hK ⊢
      go_simp
      exact hK _ _ _ rfl hG (Below.refl _ _) rfl
    · have e0 : f 0 = (vval x0 L0) := hd 0 (by kernel_rfl)
      refine wanted_on rfl ?_
      simp only [putAll, Act.put, List.setIfInBounds_toArray, List.set_cons_zero, List.set_cons_succ, e0] at hK ⊢
      go_simp
      refine (HO.out _ _ (m0.below (below_up hG) (Nat.le_refl _))).mono ?_
      rintro e u1 ⟨V1, rfl, h1, hb⟩
      exact hK _ _ _ rfl (hG.trans (hb.mono hG.size)) hb ⟨_, rfl, h1⟩
    · obtain ⟨V1, e1, q1⟩ := hd 1 (by kernel_rfl)
      refine wanted_on rfl ?_
      simp only [putAll, Act.put, List.setIfInBounds_toArray, List.set_cons_zero, List.set_cons_succ, e1] at hK ⊢
      go_simp
      refine (own_may x0 V1 u).mono ?_
      rintro e u1 ⟨rfl, hb⟩
      exact hK _ _ _ rfl (hG.trans (hb.mono hG.size)) hb rfl
    · obtain ⟨⟨c0, c1, c2, c3⟩, _⟩ := box4 (box_stays hG)
      refine wanted_on rfl ?_
      simp only [putAll, Act.put, List.setIfInBounds_toArray, List.set_cons_zero, List.set_cons_succ] at hK ⊢
      go_simp
      exact hK _ _ _ rfl hG (Below.refl _ _) rfl
    · have e3 : f 3 = (vval x0 L0) := hd 3 (by kernel_rfl)
      refine wanted_on rfl ?_
      simp only [putAll, Act.put, List.setIfInBounds_toArray, List.set_cons_zero, List.set_cons_succ, e3] at hK ⊢
      go_simp
      refine (ref_may x0 L0 u).mono ?_
      rintro e u1 ⟨rfl, hb⟩
      exact hK _ _ _ rfl (hG.trans (hb.mono hG.size)) hb rfl
    · have e2 : f 2 = (.bool (mayV x0)) := hd 2 (by kernel_rfl)
      have e4 : f 4 = (.bool (mayV x0)) := hd 4 (by kernel_rfl)
      refine wanted_on rfl ?_
      simp only [putAll, Act.put, List.setIfInBounds_toArray, List.set_cons_zero, List.set_cons_succ, e2, e4] at hK ⊢
      go_simp
      exact hK _ _ _ rfl hG (Below.refl _ _) (by simp [isV, atR])
    · have e5 : f 5 = (.bool true) := hd 5 (by kernel_rfl)
      refine wanted_on rfl ?_
      simp only [putAll, Act.put, List.setIfInBounds_toArray, List.set_cons_zero, List.set_cons_succ, e5] at hK ⊢
      go_simp
      exact hK _ _ _ rfl hG (Below.refl _ _) rfl
    · have e6 : f 6 = (.bool true) := hd 6 (by kernel_rfl)
      refine wanted_on (by simp [Region.wanted, yielded, putAll, Act.put, List.setIfInBounds_toArray, List.set_cons_zero, List.set_cons_succ, e6]) ?_
      simp only [putAll, Act.put, List.setIfInBounds_toArray, List.set_cons_zero, List.set_cons_succ, e6] at hK ⊢
      go_simp
      exact hK _ _ _ rfl hG (Below.refl _ _) rfl
    · have e6 : f 6 = (.bool true) := hd 6 (by kernel_rfl)
      have e7 : f 7 = (vval ⟨5, 0, ⟨#[]⟩, []⟩ (.slice none 0 0)) := hd 7 (by kernel_rfl)
      refine wanted_on (by simp [Region.wanted, yielded, putAll, Act.put, List.setIfInBounds_toArray, List.set_cons_zero, List.set_cons_succ, e6, e7]) ?_
      simp only [putAll, Act.put, List.setIfInBounds_toArray, List.set_cons_zero, List.set_cons_succ, e6, e7] at hK ⊢
      go_simp
      refine (own_may ⟨5, 0, ⟨#[]⟩, []⟩ _ u).mono ?_
      rintro e u1 ⟨rfl, hb⟩
      exact hK _ _ _ rfl (hG.trans (hb.mono hG.size)) hb rfl
    · have e6 : f 6 = (.bool true) := hd 6 (by kernel_rfl)
      have e8 : f 8 = (.bool true) := hd 8 (by kernel_rfl)
      refine wanted_on rfl ?_
      simp only [putAll, Act.put, List.setIfInBounds_toArray, List.set_cons_zero, List.set_cons_succ, e6, e8] at hK ⊢
      go_simp
      exact hK _ _ _ rfl hG (Below.refl _ _) rfl
    · have e9 : f 9 = (.bool true) := hd 9 (by kernel_rfl)
      refine wanted_on rfl ?_
      simp only [putAll, Act.put, List.setIfInBounds_toArray, List.set_cons_zero, List.set_cons_succ, e9] at hK ⊢
      go_simp
      exact hK _ _ _ rfl hG (Below.refl _ _) rfl
  · intro f u hG hf
    have e10 : f 10 = .bool true := hf 10 (by decide)
    simp only [putAll, Act.put, List.setIfInBounds_toArray, List.set_cons_zero, List.set_cons_succ, e10]
    go_wp2_with fail
    all_goals go_ret
    exact ⟨rfl, (below_up hG)⟩

theorem contract (H : Type) (enc : TypeId × Value → H) (W : World) (base : Nat) (args : Array Value) (ds gs : List (DataW H)) (before : List MemPlace)
    (hval : ∀ (j : Nat) t v, Try.f5.params[j]? = some t → args[j]? = some v → Value.okWide Try.prog W .any base t v)
    (hW : DataW.Whole enc Try.prog Try.f5.params.toList Rows.valueMaySpec.vars false W args.toList ds gs before)
    (hsz : (DataW.weightsEach Try.prog (Try.f5.params.toList ++ Rows.valueMaySpec.plain.varTypes Try.prog) (ds ++ gs)).all (· ≤ reachBytes) = true) :
    Calls Try.prog 5 args W fun e W' => ∃ v, e = .returned v ∧ Rows.valueMaySpec.post enc Try.prog Try.f5 false true false false W args v W' := by
  have hW' := hW
  obtain ⟨p, q, hA0, hV, rfl, hfz, hnd⟩ := hW
  have hA : DataW.TrodAll enc Try.prog W 0 (fun _ => true) true Try.f5.params.toList args.toList ds p := hA0
  rw [Try.params5] at hA hval hsz
  obtain ⟨v0, vs0, d0, ds0, p0, q0, hargs, rfl, rfl, h0, r0⟩ := trodAll_cons hA
  obtain ⟨rfl, rfl, rfl⟩ := trodAll_nil r0
  obtain rfl : args = #[v0] := by cases args; simp_all
  obtain ⟨rfl, rfl⟩ := trodVars_none hV
  obtain ⟨x0, L0, rfl, i0, m0⟩ := vcame_of (j := 0) (hval 0 24 v0 rfl rfl) h0 hsz rfl rfl
  clear hA0
  simp only [List.append_nil] at hW'
  have hlt0 : ∀ x ∈ p0, x.block < W.heap.size := fun x hx => hW'.lt x (by simp [hx])
  refine (walk x0 L0 W i0 m0 ).mono fun e W' ⟨he, bel⟩ => ?_
  subst he
  exact ⟨_, rfl, _, _, _, [], p0 ++ [], [], hW', trodAll_mk1 (shut_bool Try.underlying4 _), (trodAll_cons_mk (Below.trod (by kernel_rfl) (by kernel_rfl) (of_decide_eq_true (by kernel_rfl)) h0 bel hlt0) trodAll_mk0), rfl, bel.frame _, fun h => by cases h⟩

set_option maxRecDepth 100000 in
theorem lifted (os : Os) (started : os.Started) (H : Type) (enc : TypeId × Value → H) :
    ReturnsInHanded {} Try.checked os 5 .any (Rows.valueMaySpec.pre6 enc Try.prog Try.f5 Rows.valueMayRow.domain false) (Rows.valueMaySpec.post enc Try.prog Try.f5 false true false false) := by
  refine returnsInHanded_of_change_sized (C := Try.checked) own started (by kernel_rfl) Try.func5
    (ChangeSpec.witness6 (enc := enc) (C := Try.checked) false ⟨#[], #[.agg #[.int .i64 0, .int .i64 0, .string ByteArray.empty, .slice none 0 0]], []⟩ 8 (by kernel_rfl) (by kernel_rfl) (by kernel_rfl) (by kernel_rfl)) ?_
  intro W base args ds gs before hval0 hW hcnd hsz _
  exact contract H enc W base args ds gs before hval0 hW hsz

theorem proved : Rows.ValueMaySaid :=
  OpenClaim.holds_of_wide 5 Try.f5 rfl rfl rfl rfl rfl rfl rfl ⟨rfl, rfl, rfl, rfl, rfl⟩ rfl rfl rfl rfl rfl (by kernel_rfl) Try.func5 (by kernel_rfl)
    (of_decide_eq_true (by kernel_rfl)) (by unfold Func.isWrapper; first | (rw [if_pos (by decide +kernel)]; kernel_rfl) | (rw [if_neg (by decide +kernel)]; exact ⟨rfl, rfl⟩))
    (fun os started H enc _ => lifted os started H enc)
#print axioms proved
end Go.Proofs.Ytjfmhppgjhgdaaa.valueMay
