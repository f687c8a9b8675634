/-
  TypesResults returns true for every text, and the argument reads afterwards as before; no condition.
-/
import Derived.Test.YtmcechcigehjbaaReflaws
import Derived.ProofKit
import Derived.OpenShut
namespace Go.Proofs.Ytmcechcigehjbaa.typesResults
open Go.ChangeShapes Go.WideShapes Go.ChangeAt Go.RowKit
open Go.WideMaps Go.WideElems
open Go.ChangeMaps (open_string shut_string)
set_option linter.unusedSimpArgs false
set_option maxRecDepth 100000
set_option linter.unusedVariables false

theorem own : ownKnob Try.prog.godebug = none := by kernel_rfl

set_option maxHeartbeats 1000000 in
theorem walk (a0 : ByteArray) (w0 : a0.size ≤ maxLen)  (w : World)  :
    Calls Try.prog 5 #[.string a0] w fun e w' => e = .returned (.bool true) ∧ Below w.heap.size w w' := by
  have HO : Hid (∀ (w : World), Calls Try.prog 14 #[.string a0] w fun e w' => e = .returned (.tuple #[.string (resV a0.data.toList), .int .i64 (errV a0.data.toList)]) ∧ Below w.heap.size w w') := fun w => own_res a0 w w0
  have HE : Hid (∀ (w : World), Calls Try.prog 15 #[.string a0] w fun e w' => e = .returned (.tuple #[.string (resV a0.data.toList), .int .i64 (errV a0.data.toList)]) ∧ Below w.heap.size w w') := fun w => ref_res a0 w w0
  have HD : Hid (∀ (w : World), Calls Try.prog 14 #[.string ⟨#[102, 117, 110, 99, 40, 105, 110, 116, 41, 98, 111, 111, 108]⟩] w fun e w' => e = .returned (.tuple #[.string ⟨#[98, 111, 111, 108]⟩, .int .i64 0]) ∧ Below w.heap.size w w') := fun w => by
    have h : validF (⟨#[102, 117, 110, 99, 40, 105, 110, 116, 41, 98, 111, 111, 108]⟩ : ByteArray).data.toList = true := by decide +kernel
    have h1 : resT (⟨#[102, 117, 110, 99, 40, 105, 110, 116, 41, 98, 111, 111, 108]⟩ : ByteArray).data.toList = [98, 111, 111, 108] := by decide +kernel
    have := own_res ⟨#[102, 117, 110, 99, 40, 105, 110, 116, 41, 98, 111, 111, 108]⟩ w (by decide)
    unfold resV errV at this
    rw [if_pos h, if_pos h, h1] at this
    exact this
  clear w0
  generalize resV a0.data.toList = r at *
  generalize errV a0.data.toList = m at *
  have hq : (r.toList == r.toList) = true := by simp
  go_enter Try.func5, Try.ntmps5
  go_wp2_with fail
  refine (HO.out _).mono ?_
  rintro e w1 ⟨rfl, b1⟩
  go_wp2_with fail
  refine (HE.out _).mono ?_
  rintro e w2 ⟨rfl, b2⟩
  go_wp2_with fail
  refine (HD.out _).mono ?_
  rintro e w3 ⟨rfl, b3⟩
  have HB : Hid (Below w.heap.size w w3) := (b1.trans (b2.mono b1.size)).trans (b3.mono (Nat.le_trans b1.size b2.size))
  clear b1 b2 b3
  go_wp2_with fail
  go_ret
  exact ⟨by first | rfl | simp, HB.out⟩

theorem contract (H : Type) (enc : TypeId × Value → H) (W : World) (base : Nat) (args : Array Value) (ds gs : List (DataW H)) (before : List MemPlace)
    (hval : ∀ (j : Nat) t v, Try.f5.params[j]? = some t → args[j]? = some v → Value.okWide Try.prog W .any base t v)
    (hW : DataW.Whole enc Try.prog Try.f5.params.toList Rows.typesResultsSpec.vars false W args.toList ds gs before) :
    Calls Try.prog 5 args W fun e W' => ∃ v, e = .returned v ∧ Rows.typesResultsSpec.post enc Try.prog Try.f5 false true false false W args v W' := by
  have hW' := hW
  obtain ⟨p, q, hA0, hV, rfl, hfz, hnd⟩ := hW
  have hA : DataW.TrodAll enc Try.prog W 0 (fun _ => true) true Try.f5.params.toList args.toList ds p := hA0
  rw [Try.params5] at hA hval
  obtain ⟨v0, vs0, d0, ds0, p0, q0, hargs, rfl, rfl, h0, r0⟩ := trodAll_cons hA
  obtain ⟨rfl, rfl, rfl⟩ := trodAll_nil r0
  obtain rfl : args = #[v0] := by cases args; simp_all
  obtain ⟨rfl, rfl⟩ := trodVars_none hV
  obtain ⟨a0, rfl, rfl, rfl, w0⟩ := open_string Try.underlying9 (hval 0 9 v0 rfl rfl) h0
  clear hA0
  simp only [List.append_nil] at hW'
  refine (walk a0 w0  W).mono fun e W' ⟨he, bel⟩ => ?_
  subst he
  exact ⟨_, rfl, _, _, _, [], [], [], hW', trodAll_mk1 (shut_bool Try.underlying4 _), (trodAll_cons_mk (shut_string Try.underlying9 w0) trodAll_mk0), rfl, bel.frame _, fun h => by cases h⟩

set_option maxRecDepth 100000 in
theorem lifted (os : Os) (started : os.Started) (H : Type) (enc : TypeId × Value → H) :
    ReturnsInHanded {} Try.checked os 5 .any (Rows.typesResultsSpec.pre6 enc Try.prog Try.f5 Rows.typesResultsRow.domain false) (Rows.typesResultsSpec.post enc Try.prog Try.f5 false true false false) := by
  refine returnsInHanded_of_change (C := Try.checked) own started (by kernel_rfl) Try.func5
    (ChangeSpec.witness6 (enc := enc) (C := Try.checked) false ⟨#[], #[.string ByteArray.empty], []⟩ 8 (by kernel_rfl) (by kernel_rfl) (by kernel_rfl) (by kernel_rfl)) ?_
  intro W base args ds gs before hval0 hW hcnd _
  exact contract H enc W base args ds gs before hval0 hW

theorem proved : Rows.TypesResultsSaid :=
  OpenClaim.holds_of_wide 5 Try.f5 rfl rfl rfl rfl rfl rfl rfl ⟨rfl, rfl, rfl, rfl, rfl⟩ rfl rfl rfl rfl rfl (by kernel_rfl) Try.func5 (by kernel_rfl)
    (of_decide_eq_true (by kernel_rfl)) (by unfold Func.isWrapper; first | (rw [if_pos (by decide +kernel)]; kernel_rfl) | (rw [if_neg (by decide +kernel)]; exact ⟨rfl, rfl⟩))
    (fun os started H enc _ => lifted os started H enc)
#print axioms proved
end Go.Proofs.Ytmcechcigehjbaa.typesResults
