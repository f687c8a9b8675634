/-
  For all pairs of lengths that come in (made not below 0, their sum within 64 bits), the check of two texts answers what P7.5 says: the law's function returns true.
-/
import Derived.Test.YtjmklmcnlieplabFlt2
import Derived.Test.YtjmklmcnlieplabFbox
namespace Go.Proofs.Ytjmklmcnlieplab.faultCats
open Go.ChangeShapes Go.WideShapes Go.ChangeAt Go.RowKit
open Go.WideMaps Go.WideElems
open Go.ChangeMaps (open_string shut_string)
set_option linter.unusedVariables false

theorem own : ownKnob Try.prog.godebug = none := by kernel_rfl

theorem walk (a0 : Int) (a1 : Int) (w0 : (Lit.int .i64 a0).wf = true) (w1 : (Lit.int .i64 a1).wf = true)  (w : World)  :
    Calls Try.prog 4 #[.int .i64 a0, .int .i64 a1] w fun e w' => e = .returned (.bool true) ∧ Below w.heap.size w w' := by
  obtain ⟨l0, m0⟩ : -9223372036854775808 ≤ a0 ∧ a0 ≤ 9223372036854775807 := by
    simp [Lit.wf, IntKind.min, IntKind.max, IntKind.bits, IntKind.signed] at w0; omega
  clear w0
  obtain ⟨l1, m1⟩ : -9223372036854775808 ≤ a1 ∧ a1 ≤ 9223372036854775807 := by
    simp [Lit.wf, IntKind.min, IntKind.max, IntKind.bits, IntKind.signed] at w1; omega
  clear w1
  have HC : Hid ((∀ w, Calls Try.prog 10 #[.int .i64 a0] w fun e w' => e = .returned (.int .i64 (halfI a0)) ∧ w' = w) ∧ (∀ w, Calls Try.prog 10 #[.int .i64 a1] w fun e w' => e = .returned (.int .i64 (halfI a1)) ∧ w' = w)) := ⟨fun w => half_any a0 l0 m0 w, fun w => half_any a1 l1 m1 w⟩
  obtain ⟨x0, x1⟩ := half_in a0 l0 m0
  obtain ⟨y0, y1⟩ := half_in a1 l1 m1
  generalize halfI a0 = x at HC x0 x1
  generalize halfI a1 = y at HC y0 y1
  clear l0 m0 l1 m1
  go_enter Try.func4, Try.ntmps4
  go_wp2_with fail
  refine (HC.out.1 _).mono ?_
  rintro e u0 ⟨rfl, rfl⟩
  go_wp2_with fail
  refine (HC.out.2 _).mono ?_
  rintro e u0 ⟨rfl, rfl⟩
  go_wp2_with fail
  refine (own_cat x y 0 ⟨x0, x1⟩ ⟨y0, y1⟩ _).mono ?_
  rintro e u1 ⟨rfl, b1⟩
  simp only [fv]
  go_wp2_with fail
  refine wp_grow [isV (.int .i64 0), isV (.bool true), isV (.bool true), isV (.agg #[.int .i64 (longF (x + y) 200).k, .int .i64 (longF (x + y) 200).a, .int .i64 (longF (x + y) 200).b, .int .i64 (longF (x + y) 200).c]), isV (.int .i64 x), isV (.int .i64 y), isV (.int .i64 (x + y)), isV (.agg #[.int .i64 (longF (x + y) 200).k, .int .i64 (longF (x + y) 200).a, .int .i64 (longF (x + y) 200).b, .int .i64 (longF (x + y) 200).c]), isV (.bool true), isV (.bool true), isV (.bool true)]
    ⟨stab_is _, stab_is _, stab_is _, stab_is _, stab_is _, stab_is _, stab_is _, stab_is _, stab_is _, stab_is _, stab_is _, trivial⟩ (by kernel_rfl) (by kernel_rfl) (by kernel_rfl) ?_ ?_
  · refine stepsOK_cons (fun f u hG hd K hK => ?_) (stepsOK_cons (fun f u hG hd K hK => ?_) (stepsOK_cons (fun f u hG hd K hK => ?_) (stepsOK_cons (fun f u hG hd K hK => ?_) (stepsOK_cons (fun f u hG hd K hK => ?_) (stepsOK_cons (fun f u hG hd K hK => ?_) (stepsOK_cons (fun f u hG hd K hK => ?_) (stepsOK_cons (fun f u hG hd K hK => ?_) (stepsOK_cons (fun f u hG hd K hK => ?_) (stepsOK_cons (fun f u hG hd K hK => ?_) (stepsOK_cons (fun f u hG hd K hK => ?_) stepsOK_nil))))))))))
    · refine wanted_on rfl ?_
      simp only [putAll, Act.put, List.setIfInBounds_toArray, List.set_cons_zero, List.set_cons_succ] at hK ⊢
      go_simp
      exact hK _ _ _ rfl hG (Below.refl _ _) rfl
    · have e0 : f 0 = (.int .i64 0) := hd 0 (by kernel_rfl)
      refine wanted_on rfl ?_
      simp only [putAll, Act.put, List.setIfInBounds_toArray, List.set_cons_zero, List.set_cons_succ, e0] at hK ⊢
      go_simp
      exact hK _ _ _ rfl hG (Below.refl _ _) rfl
    · have e1 : f 1 = (.bool true) := hd 1 (by kernel_rfl)
      refine wanted_on rfl ?_
      simp only [putAll, Act.put, List.setIfInBounds_toArray, List.set_cons_zero, List.set_cons_succ, e1] at hK ⊢
      go_simp
      exact hK _ _ _ rfl hG (Below.refl _ _) rfl
    · have e2 : f 2 = (.bool true) := hd 2 (by kernel_rfl)
      obtain ⟨⟨c0, c1, c2, c3⟩, _⟩ := box4 (box_stays hG)
      refine wanted_on (by simp [Region.wanted, yielded, putAll, Act.put, List.setIfInBounds_toArray, List.set_cons_zero, List.set_cons_succ, e2]) ?_
      simp only [putAll, Act.put, List.setIfInBounds_toArray, List.set_cons_zero, List.set_cons_succ, e2] at hK ⊢
      go_simp
      exact hK _ _ _ rfl hG (Below.refl _ _) rfl
    · have e2 : f 2 = (.bool true) := hd 2 (by kernel_rfl)
      refine wanted_on (by simp [Region.wanted, yielded, putAll, Act.put, List.setIfInBounds_toArray, List.set_cons_zero, List.set_cons_succ, e2]) ?_
      simp only [putAll, Act.put, List.setIfInBounds_toArray, List.set_cons_zero, List.set_cons_succ, e2] at hK ⊢
      go_simp
      exact hK _ _ _ rfl hG (Below.refl _ _) rfl
    · have e2 : f 2 = (.bool true) := hd 2 (by kernel_rfl)
      refine wanted_on (by simp [Region.wanted, yielded, putAll, Act.put, List.setIfInBounds_toArray, List.set_cons_zero, List.set_cons_succ, e2]) ?_
      simp only [putAll, Act.put, List.setIfInBounds_toArray, List.set_cons_zero, List.set_cons_succ, e2] at hK ⊢
      go_simp
      exact hK _ _ _ rfl hG (Below.refl _ _) rfl
    · have e2 : f 2 = (.bool true) := hd 2 (by kernel_rfl)
      have e4 : f 4 = (.int .i64 x) := hd 4 (by kernel_rfl)
      have e5 : f 5 = (.int .i64 y) := hd 5 (by kernel_rfl)
      refine wanted_on (by simp [Region.wanted, yielded, putAll, Act.put, List.setIfInBounds_toArray, List.set_cons_zero, List.set_cons_succ, e2, e4, e5]) ?_
      simp only [putAll, Act.put, List.setIfInBounds_toArray, List.set_cons_zero, List.set_cons_succ, e2, e4, e5] at hK ⊢
      go_simp
      exact hK _ _ _ rfl hG (Below.refl _ _) (by simp [isV, atR, IntWalk.i64_in (x + y) (by omega)])
    · have e2 : f 2 = (.bool true) := hd 2 (by kernel_rfl)
      have e6 : f 6 = (.int .i64 (x + y)) := hd 6 (by kernel_rfl)
      refine wanted_on (by simp [Region.wanted, yielded, putAll, Act.put, List.setIfInBounds_toArray, List.set_cons_zero, List.set_cons_succ, e2, e6]) ?_
      simp only [putAll, Act.put, List.setIfInBounds_toArray, List.set_cons_zero, List.set_cons_succ, e2, e6] at hK ⊢
      go_simp
      refine (ref_long (x + y) 200 u).mono ?_
      rintro e u1 ⟨rfl, hb⟩
      exact hK _ _ _ rfl (hG.trans (hb.mono hG.size)) hb rfl
    · have e2 : f 2 = (.bool true) := hd 2 (by kernel_rfl)
      have e3 : f 3 = (.agg #[.int .i64 (longF (x + y) 200).k, .int .i64 (longF (x + y) 200).a, .int .i64 (longF (x + y) 200).b, .int .i64 (longF (x + y) 200).c]) := hd 3 (by kernel_rfl)
      have e7 : f 7 = (.agg #[.int .i64 (longF (x + y) 200).k, .int .i64 (longF (x + y) 200).a, .int .i64 (longF (x + y) 200).b, .int .i64 (longF (x + y) 200).c]) := hd 7 (by kernel_rfl)
      refine wanted_on (by simp [Region.wanted, yielded, putAll, Act.put, List.setIfInBounds_toArray, List.set_cons_zero, List.set_cons_succ, e2, e3, e7]) ?_
      simp only [putAll, Act.put, List.setIfInBounds_toArray, List.set_cons_zero, List.set_cons_succ, e2, e3, e7] at hK ⊢
      go_simp
      exact hK _ _ _ rfl hG (Below.refl _ _) (by simp [isV, atR])
    · have e2 : f 2 = (.bool true) := hd 2 (by kernel_rfl)
      have e8 : f 8 = (.bool true) := hd 8 (by kernel_rfl)
      refine wanted_on rfl ?_
      simp only [putAll, Act.put, List.setIfInBounds_toArray, List.set_cons_zero, List.set_cons_succ, e2, e8] at hK ⊢
      go_simp
      exact hK _ _ _ rfl hG (Below.refl _ _) rfl
    · have e9 : f 9 = (.bool true) := hd 9 (by kernel_rfl)
      refine wanted_on rfl ?_
      simp only [putAll, Act.put, List.setIfInBounds_toArray, List.set_cons_zero, List.set_cons_succ, e9] at hK ⊢
      go_simp
      exact hK _ _ _ rfl hG (Below.refl _ _) rfl
  · intro f u hG hf
    have e10 : f 10 = .bool true := hf 10 (by decide)
    simp only [putAll, Act.put, List.setIfInBounds_toArray, List.set_cons_zero, List.set_cons_succ, e10]
    go_wp2_with fail
    all_goals go_ret
    exact ⟨rfl, b1.trans ((below_up hG).mono b1.size)⟩

theorem contract (H : Type) (enc : TypeId × Value → H) (W : World) (base : Nat) (args : Array Value) (ds gs : List (DataW H)) (before : List MemPlace)
    (hval : ∀ (j : Nat) t v, Try.f4.params[j]? = some t → args[j]? = some v → Value.okWide Try.prog W .any base t v)
    (hW : DataW.Whole enc Try.prog Try.f4.params.toList Rows.faultCatsSpec.vars false W args.toList ds gs before) :
    Calls Try.prog 4 args W fun e W' => ∃ v, e = .returned v ∧ Rows.faultCatsSpec.post enc Try.prog Try.f4 false true false false W args v W' := by
  have hW' := hW
  obtain ⟨p, q, hA0, hV, rfl, hfz, hnd⟩ := hW
  have hA : DataW.TrodAll enc Try.prog W 0 (fun _ => true) true Try.f4.params.toList args.toList ds p := hA0
  rw [Try.params4] at hA hval
  obtain ⟨v0, vs0, d0, ds0, p0, q0, hargs, rfl, rfl, h0, r0⟩ := trodAll_cons hA
  obtain ⟨v1, vs1, d1, ds1, p1, q1, rfl, rfl, rfl, h1, r1⟩ := trodAll_cons r0
  obtain ⟨rfl, rfl, rfl⟩ := trodAll_nil r1
  obtain rfl : args = #[v0, v1] := by cases args; simp_all
  obtain ⟨rfl, rfl⟩ := trodVars_none hV
  obtain ⟨a0, rfl, rfl, rfl, w0⟩ := open_int Try.underlying3 (hval 0 3 v0 rfl rfl) h0
  obtain ⟨a1, rfl, rfl, rfl, w1⟩ := open_int Try.underlying3 (hval 1 3 v1 rfl rfl) h1
  clear hA0
  simp only [List.append_nil] at hW'
  refine (walk a0 a1 w0 w1  W).mono fun e W' ⟨he, bel⟩ => ?_
  subst he
  exact ⟨_, rfl, _, _, _, [], [], [], hW', trodAll_mk1 (shut_bool Try.underlying4 _), (trodAll_cons_mk (shut_int Try.underlying3 w0) (trodAll_cons_mk (shut_int Try.underlying3 w1) trodAll_mk0)), rfl, bel.frame _, fun h => by cases h⟩

set_option maxRecDepth 100000 in
theorem lifted (os : Os) (started : os.Started) (H : Type) (enc : TypeId × Value → H) :
    ReturnsInHanded {} Try.checked os 4 .any (Rows.faultCatsSpec.pre6 enc Try.prog Try.f4 Rows.faultCatsRow.domain false) (Rows.faultCatsSpec.post enc Try.prog Try.f4 false true false false) := by
  refine returnsInHanded_of_change (C := Try.checked) own started (by kernel_rfl) Try.func4
    (ChangeSpec.witness6 (enc := enc) (C := Try.checked) false ⟨#[], #[.int .i64 0, .int .i64 0], []⟩ 8 (by kernel_rfl) (by kernel_rfl) (by kernel_rfl) (by kernel_rfl)) ?_
  intro W base args ds gs before hval0 hW hcnd _
  exact contract H enc W base args ds gs before hval0 hW

theorem proved : Rows.FaultCatsSaid :=
  OpenClaim.holds_of_wide 4 Try.f4 rfl rfl rfl rfl rfl rfl rfl ⟨rfl, rfl, rfl, rfl, rfl⟩ rfl rfl rfl rfl rfl (by kernel_rfl) Try.func4 (by kernel_rfl)
    (of_decide_eq_true (by kernel_rfl)) (by unfold Func.isWrapper; first | (rw [if_pos (by decide +kernel)]; kernel_rfl) | (rw [if_neg (by decide +kernel)]; exact ⟨rfl, rfl⟩))
    (fun os started H enc _ => lifted os started H enc)
#print axioms proved
end Go.Proofs.Ytjmklmcnlieplab.faultCats
