/-
  TypesBack returns true for every text, and the argument reads afterwards as before; no condition.
-/
import Derived.Test.YtmcechcigehjbabTyplain5
import Derived.Test.YtmcechcigehjbabOwnfunc2
import Derived.ProofKit
import Derived.OpenShut
namespace Go.Proofs.Ytmcechcigehjbab.typesBack
open Go.ChangeShapes Go.WideShapes Go.ChangeAt Go.RowKit
open Go.WideMaps Go.WideElems
open Go.ChangeMaps (open_string shut_string)
set_option linter.unusedSimpArgs false
set_option maxRecDepth 100000
set_option linter.unusedVariables false

theorem own : ownKnob Try.prog.godebug = none := by kernel_rfl

set_option maxHeartbeats 2000000 in
theorem walk (a0 : ByteArray) (w0 : a0.size ≤ maxLen)  (w : World)  :
    Calls Try.prog 5 #[.string a0] w fun e w' => e = .returned (.bool true) ∧ Below w.heap.size w w' := by
  have HO : Hid (∀ (w : World), Calls Try.prog 11 #[.string a0] w (ParPost w a0.data.toList)) := fun w => own_pars a0 w w0
  have HR : Hid (∀ (w : World), Calls Try.prog 12 #[.string a0] w fun e w' => e = .returned (.tuple #[.string (resV a0.data.toList), .int .i64 (errV a0.data.toList)]) ∧ Below w.heap.size w w') := fun w => own_res a0 w w0
  have HD : Hid (∀ (w : World), Calls Try.prog 12 #[.string ⟨#[102, 117, 110, 99, 40, 41, 102, 117, 110, 99, 40, 105, 110, 116, 41, 97, 110, 121]⟩] w fun e w' => e = .returned (.tuple #[.string ⟨#[102, 117, 110, 99, 40, 105, 110, 116, 41, 97, 110, 121]⟩, .int .i64 0]) ∧ Below w.heap.size w w') := fun w => by
    have h : validF (⟨#[102, 117, 110, 99, 40, 41, 102, 117, 110, 99, 40, 105, 110, 116, 41, 97, 110, 121]⟩ : ByteArray).data.toList = true := by decide +kernel
    have h1 : resT (⟨#[102, 117, 110, 99, 40, 41, 102, 117, 110, 99, 40, 105, 110, 116, 41, 97, 110, 121]⟩ : ByteArray).data.toList = [102, 117, 110, 99, 40, 105, 110, 116, 41, 97, 110, 121] := by decide +kernel
    have := own_res ⟨#[102, 117, 110, 99, 40, 41, 102, 117, 110, 99, 40, 105, 110, 116, 41, 97, 110, 121]⟩ w (by decide)
    unfold resV errV at this
    rw [if_pos h, if_pos h, h1] at this
    exact this
  have HV : Hid (∀ (w : World), Calls Try.prog 14 #[.string a0] w fun e w' => e = .returned (.bool (valid a0.data.toList)) ∧ Below w.heap.size w w') := fun w => own_valid a0 w w0
  unfold ParPost at HO
  cases hv : validF a0.data.toList with
  | true =>
    obtain ⟨p1, p2, p3, p4, p5⟩ := func_back hv
    have hvv : valid a0.data.toList = true := by unfold validF at hv; rw [Bool.and_eq_true] at hv; exact hv.2
    have e1 : errV a0.data.toList = 0 := by unfold errV; rw [if_pos hv]
    have e2 : resV a0.data.toList = ⟨(resT a0.data.toList).toArray⟩ := by unfold resV; rw [if_pos hv]
    have eF := funcE_good (xs := parT a0.data.toList) (r := resT a0.data.toList) (by omega) p1 (fun h => by rcases p2 with h2 | h2; exact h.1 h2; rw [h2] at h; cases h.2) (by rw [p3]; omega)
    have eV : funcV (parT a0.data.toList) (resT a0.data.toList) = a0.data.toList := eF.2.trans p3
    have HF : Hid (∀ (v : Value) (W : World), Lies W v (parT a0.data.toList) → Calls Try.prog 13 #[v, .string ⟨(resT a0.data.toList).toArray⟩] W fun e w' => e = .returned (.tuple #[.string a0, .int .i64 0]) ∧ Below W.heap.size W w') := fun v W hL => by
      have := own_func v (parT a0.data.toList) ⟨(resT a0.data.toList).toArray⟩ W hL (fun x hx => by have := valid_le (ok_all p1 x hx); unfold maxLen; omega) (by rw [← bsize_list]; unfold maxLen resT; simp; rw [bsize_list] at p5; omega)
      unfold FuncPost at this
      rw [eV, eF.1] at this
      exact this
    rw [e1, e2] at HR
    rw [e1] at HO
    rw [hvv] at HV
    generalize parT a0.data.toList = xs at *
    generalize (⟨(resT a0.data.toList).toArray⟩ : ByteArray) = r at *
    have hq : (a0.toList == a0.toList) = true := by simp
    clear hv p1 p2 p3 p4 p5 hvv e1 e2 eF eV w0
    go_enter Try.func5, Try.ntmps5
    go_wp2_with fail
    refine (HO.out _).mono ?_
    rintro e w1 ⟨ao, cv, rfl, hown, b1⟩
    have HL1 : Hid (Lies w1 (.slice ao xs.length cv) xs) := lies_of hown rfl
    clear hown
    go_wp2_with fail
    refine (HR.out _).mono ?_
    rintro e w2 ⟨rfl, b2⟩
    go_wp2_with fail
    refine (HD.out _).mono ?_
    rintro e w3 ⟨rfl, b3⟩
    have HB : Hid (Below w.heap.size w w3) := (b1.trans (b2.mono b1.size)).trans (b3.mono (Nat.le_trans b1.size b2.size))
    have HL3 : Hid (Lies w3 (.slice ao xs.length cv) xs) := (HL1.out.below b2).below b3
    clear b1 b2 b3
    go_wp2_with fail
    refine (HF.out _ _ HL3.out).mono ?_
    rintro e w4 ⟨rfl, b4⟩
    have HB4 : Hid (Below w.heap.size w w4) := HB.out.trans (b4.mono HB.out.size)
    clear b4
    go_wp2_with fail
    refine (HV.out _).mono ?_
    rintro e w5 ⟨rfl, b5⟩
    have HB5 : Hid (Below w.heap.size w w5) := HB4.out.trans (b5.mono HB4.out.size)
    clear b5
    go_wp2_with fail
    go_ret
    exact ⟨by first | rfl | simp, HB5.out⟩
  | false =>
    have e1 : errV a0.data.toList = 9 := by unfold errV; rw [hv]; rfl
    have e2 : resV a0.data.toList = ⟨#[]⟩ := by unfold resV; rw [hv]; rfl
    have e3 : parT a0.data.toList = [] := by unfold parT; rw [hv]; rfl
    rw [e1, e2] at HR
    rw [e1, e3] at HO
    clear hv e1 e2 e3 w0
    go_enter Try.func5, Try.ntmps5
    go_wp2_with fail
    refine (HO.out _).mono ?_
    rintro e w1 ⟨ao, cv, rfl, hown, b1⟩
    clear hown
    go_wp2_with fail
    refine (HR.out _).mono ?_
    rintro e w2 ⟨rfl, b2⟩
    go_wp2_with fail
    refine (HD.out _).mono ?_
    rintro e w3 ⟨rfl, b3⟩
    have HB : Hid (Below w.heap.size w w3) := (b1.trans (b2.mono b1.size)).trans (b3.mono (Nat.le_trans b1.size b2.size))
    clear b1 b2 b3
    go_wp2_with fail
    go_ret
    exact ⟨by first | rfl | simp, HB.out⟩

theorem contract (H : Type) (enc : TypeId × Value → H) (W : World) (base : Nat) (args : Array Value) (ds gs : List (DataW H)) (before : List MemPlace)
    (hval : ∀ (j : Nat) t v, Try.f5.params[j]? = some t → args[j]? = some v → Value.okWide Try.prog W .any base t v)
    (hW : DataW.Whole enc Try.prog Try.f5.params.toList Rows.typesBackSpec.vars false W args.toList ds gs before) :
    Calls Try.prog 5 args W fun e W' => ∃ v, e = .returned v ∧ Rows.typesBackSpec.post enc Try.prog Try.f5 false true false false W args v W' := by
  have hW' := hW
  obtain ⟨p, q, hA0, hV, rfl, hfz, hnd⟩ := hW
  have hA : DataW.TrodAll enc Try.prog W 0 (fun _ => true) true Try.f5.params.toList args.toList ds p := hA0
  rw [Try.params5] at hA hval
  obtain ⟨v0, vs0, d0, ds0, p0, q0, hargs, rfl, rfl, h0, r0⟩ := trodAll_cons hA
  obtain ⟨rfl, rfl, rfl⟩ := trodAll_nil r0
  obtain rfl : args = #[v0] := by cases args; simp_all
  obtain ⟨rfl, rfl⟩ := trodVars_none hV
  obtain ⟨a0, rfl, rfl, rfl, w0⟩ := open_string Try.underlying9 (hval 0 9 v0 rfl rfl) h0
  clear hA0
  simp only [List.append_nil] at hW'
  refine (walk a0 w0  W).mono fun e W' ⟨he, bel⟩ => ?_
  subst he
  exact ⟨_, rfl, _, _, _, [], [], [], hW', trodAll_mk1 (shut_bool Try.underlying4 _), (trodAll_cons_mk (shut_string Try.underlying9 w0) trodAll_mk0), rfl, bel.frame _, fun h => by cases h⟩

set_option maxRecDepth 100000 in
theorem lifted (os : Os) (started : os.Started) (H : Type) (enc : TypeId × Value → H) :
    ReturnsInHanded {} Try.checked os 5 .any (Rows.typesBackSpec.pre6 enc Try.prog Try.f5 Rows.typesBackRow.domain false) (Rows.typesBackSpec.post enc Try.prog Try.f5 false true false false) := by
  refine returnsInHanded_of_change (C := Try.checked) own started (by kernel_rfl) Try.func5
    (ChangeSpec.witness6 (enc := enc) (C := Try.checked) false ⟨#[], #[.string ByteArray.empty], []⟩ 8 (by kernel_rfl) (by kernel_rfl) (by kernel_rfl) (by kernel_rfl)) ?_
  intro W base args ds gs before hval0 hW hcnd _
  exact contract H enc W base args ds gs before hval0 hW

theorem proved : Rows.TypesBackSaid :=
  OpenClaim.holds_of_wide 5 Try.f5 rfl rfl rfl rfl rfl rfl rfl ⟨rfl, rfl, rfl, rfl, rfl⟩ rfl rfl rfl rfl rfl (by kernel_rfl) Try.func5 (by kernel_rfl)
    (of_decide_eq_true (by kernel_rfl)) (by unfold Func.isWrapper; first | (rw [if_pos (by decide +kernel)]; kernel_rfl) | (rw [if_neg (by decide +kernel)]; exact ⟨rfl, rfl⟩))
    (fun os started H enc _ => lifted os started H enc)
#print axioms proved
end Go.Proofs.Ytmcechcigehjbab.typesBack
