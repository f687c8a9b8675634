/-
  For all operations and numbers that come in, fault.Operation finds a Fault just where word.Do refuses: the law's function returns true.
-/
import Derived.Test.YtjmklmcnlieplabFdo
namespace Go.Proofs.Ytjmklmcnlieplab.faultTells
open Go.ChangeShapes Go.WideShapes Go.ChangeAt Go.RowKit
open Go.WideMaps Go.WideElems
open Go.ChangeMaps (open_string shut_string)
set_option maxHeartbeats 8000000
set_option linter.unusedVariables false

theorem own : ownKnob Try.prog.godebug = none := by kernel_rfl

theorem walk (a0 : Int) (a1 : Int) (a2 : Int) (w0 : (Lit.int .i64 a0).wf = true) (w1 : (Lit.int .i64 a1).wf = true) (w2 : (Lit.int .i64 a2).wf = true)  (w : World)  :
    Calls Try.prog 7 #[.int .i64 a0, .int .i64 a1, .int .i64 a2] w fun e w' => e = .returned (.bool true) ∧ Below w.heap.size w w' := by
  obtain ⟨l0, m0⟩ : -9223372036854775808 ≤ a0 ∧ a0 ≤ 9223372036854775807 := by
    simp [Lit.wf, IntKind.min, IntKind.max, IntKind.bits, IntKind.signed] at w0; omega
  clear w0
  obtain ⟨l1, m1⟩ : -9223372036854775808 ≤ a1 ∧ a1 ≤ 9223372036854775807 := by
    simp [Lit.wf, IntKind.min, IntKind.max, IntKind.bits, IntKind.signed] at w1; omega
  clear w1
  obtain ⟨l2, m2⟩ : -9223372036854775808 ≤ a2 ∧ a2 ≤ 9223372036854775807 := by
    simp [Lit.wf, IntKind.min, IntKind.max, IntKind.bits, IntKind.signed] at w2; omega
  clear w2
  by_cases hA : (a0 = 4 ∨ a0 = 5) ∧ a2 = 0
  · have E1 : doE a0 a2 = 20 := by unfold doE; rw [if_pos hA]
    have E2 : opF a0 a2 = ⟨2, 0, 0, 0⟩ := by unfold opF; rw [if_pos hA]
    have HC : Hid ((∀ w, Calls Try.prog 17 #[.int .i64 a0, .int .i64 a1, .int .i64 a2] w fun e w' => (∃ v, e = .returned (.tuple #[.int .i64 v, .int .i64 20])) ∧ w' = w) ∧ (∀ w, Calls Try.prog 18 #[.int .i64 a0, .int .i64 a2] w fun e w' => e = .returned (fv ⟨2, 0, 0, 0⟩) ∧ Below w.heap.size w w')) := ⟨fun w => E1 ▸ own_do a0 a1 a2 m2 w, fun w => E2 ▸ own_op a0 a2 w⟩
    clear E1 E2
    clear hA
    go_enter Try.func7, Try.ntmps7
    go_wp2_with fail
    refine (HC.out.1 _).mono ?_
    rintro e u0 ⟨⟨v, rfl⟩, rfl⟩
    go_wp2_with fail
    refine (HC.out.2 _).mono ?_
    rintro e u1 ⟨rfl, b1⟩
    simp only [fv]
    go_wp2_with fail
    refine (told_true _).mono ?_
    rintro e u2 ⟨rfl, b2⟩
    obtain ⟨hc, hf⟩ := bcell b2
    have hz : u1.heap.size < u2.heap.size := by have := b2.size; simp at this; omega
    go_wp2_with fail
    all_goals go_ret
    exact ⟨rfl, (b1.alloc b1.size _).trans (b2.mono (by have := b1.size; simp; omega))⟩
  · by_cases hB : (a0 = 6 ∨ a0 = 7) ∧ a2 < 0
    · have E1 : doE a0 a2 = 21 := by unfold doE; rw [if_neg hA, if_pos hB]
      have E2 : opF a0 a2 = ⟨3, 0, 0, 0⟩ := by unfold opF; rw [if_neg hA, if_pos hB]
      have HC : Hid ((∀ w, Calls Try.prog 17 #[.int .i64 a0, .int .i64 a1, .int .i64 a2] w fun e w' => (∃ v, e = .returned (.tuple #[.int .i64 v, .int .i64 21])) ∧ w' = w) ∧ (∀ w, Calls Try.prog 18 #[.int .i64 a0, .int .i64 a2] w fun e w' => e = .returned (fv ⟨3, 0, 0, 0⟩) ∧ Below w.heap.size w w')) := ⟨fun w => E1 ▸ own_do a0 a1 a2 m2 w, fun w => E2 ▸ own_op a0 a2 w⟩
      clear E1 E2
      clear hA hB
      go_enter Try.func7, Try.ntmps7
      go_wp2_with fail
      refine (HC.out.1 _).mono ?_
      rintro e u0 ⟨⟨v, rfl⟩, rfl⟩
      go_wp2_with fail
      refine (HC.out.2 _).mono ?_
      rintro e u1 ⟨rfl, b1⟩
      simp only [fv]
      go_wp2_with fail
      refine (told_true _).mono ?_
      rintro e u2 ⟨rfl, b2⟩
      obtain ⟨hc, hf⟩ := bcell b2
      have hz : u1.heap.size < u2.heap.size := by have := b2.size; simp at this; omega
      go_wp2_with fail
      all_goals go_ret
      exact ⟨rfl, (b1.alloc b1.size _).trans (b2.mono (by have := b1.size; simp; omega))⟩
    · have E2 : opF a0 a2 = f0 := by unfold opF; rw [if_neg hA, if_neg hB]
      have n0 : ¬ doE a0 a2 = 20 ∧ ¬ doE a0 a2 = 21 := by unfold doE; rw [if_neg hA, if_neg hB]; split <;> simp
      generalize E1 : doE a0 a2 = E at n0
      have k1 : decide (E = 20) = false := decide_eq_false n0.1
      have k2 : decide (E = 21) = false := decide_eq_false n0.2
      have k3 : (E == 20) = false := by simpa using n0.1
      have k4 : (E == 21) = false := by simpa using n0.2
      have HC : Hid ((∀ w, Calls Try.prog 17 #[.int .i64 a0, .int .i64 a1, .int .i64 a2] w fun e w' => (∃ v, e = .returned (.tuple #[.int .i64 v, .int .i64 E])) ∧ w' = w) ∧ (∀ w, Calls Try.prog 18 #[.int .i64 a0, .int .i64 a2] w fun e w' => e = .returned (fv f0) ∧ Below w.heap.size w w')) := ⟨fun w => E1 ▸ own_do a0 a1 a2 m2 w, fun w => E2 ▸ own_op a0 a2 w⟩
      clear E1 E2
      clear hA hB n0
      go_enter Try.func7, Try.ntmps7
      go_wp2_with fail
      refine (HC.out.1 _).mono ?_
      rintro e u0 ⟨⟨v, rfl⟩, rfl⟩
      go_wp2_with fail
      refine (HC.out.2 _).mono ?_
      rintro e u1 ⟨rfl, b1⟩
      simp only [fv, f0]
      go_wp2_with fail
      refine (told_true _).mono ?_
      rintro e u2 ⟨rfl, b2⟩
      obtain ⟨hc, hf⟩ := bcell b2
      have hz : u1.heap.size < u2.heap.size := by have := b2.size; simp at this; omega
      go_wp2_with fail
      all_goals go_ret
      exact ⟨rfl, (b1.alloc b1.size _).trans (b2.mono (by have := b1.size; simp; omega))⟩

theorem contract (H : Type) (enc : TypeId × Value → H) (W : World) (base : Nat) (args : Array Value) (ds gs : List (DataW H)) (before : List MemPlace)
    (hval : ∀ (j : Nat) t v, Try.f7.params[j]? = some t → args[j]? = some v → Value.okWide Try.prog W .any base t v)
    (hW : DataW.Whole enc Try.prog Try.f7.params.toList Rows.faultTellsSpec.vars false W args.toList ds gs before) :
    Calls Try.prog 7 args W fun e W' => ∃ v, e = .returned v ∧ Rows.faultTellsSpec.post enc Try.prog Try.f7 false true false false W args v W' := by
  have hW' := hW
  obtain ⟨p, q, hA0, hV, rfl, hfz, hnd⟩ := hW
  have hA : DataW.TrodAll enc Try.prog W 0 (fun _ => true) true Try.f7.params.toList args.toList ds p := hA0
  rw [Try.params7] at hA hval
  obtain ⟨v0, vs0, d0, ds0, p0, q0, hargs, rfl, rfl, h0, r0⟩ := trodAll_cons hA
  obtain ⟨v1, vs1, d1, ds1, p1, q1, rfl, rfl, rfl, h1, r1⟩ := trodAll_cons r0
  obtain ⟨v2, vs2, d2, ds2, p2, q2, rfl, rfl, rfl, h2, r2⟩ := trodAll_cons r1
  obtain ⟨rfl, rfl, rfl⟩ := trodAll_nil r2
  obtain rfl : args = #[v0, v1, v2] := by cases args; simp_all
  obtain ⟨rfl, rfl⟩ := trodVars_none hV
  obtain ⟨a0, rfl, rfl, rfl, w0⟩ := open_int Try.underlying3 (hval 0 3 v0 rfl rfl) h0
  obtain ⟨a1, rfl, rfl, rfl, w1⟩ := open_int Try.underlying3 (hval 1 3 v1 rfl rfl) h1
  obtain ⟨a2, rfl, rfl, rfl, w2⟩ := open_int Try.underlying3 (hval 2 3 v2 rfl rfl) h2
  clear hA0
  simp only [List.append_nil] at hW'
  refine (walk a0 a1 a2 w0 w1 w2  W).mono fun e W' ⟨he, bel⟩ => ?_
  subst he
  exact ⟨_, rfl, _, _, _, [], [], [], hW', trodAll_mk1 (shut_bool Try.underlying4 _), (trodAll_cons_mk (shut_int Try.underlying3 w0) (trodAll_cons_mk (shut_int Try.underlying3 w1) (trodAll_cons_mk (shut_int Try.underlying3 w2) trodAll_mk0))), rfl, bel.frame _, fun h => by cases h⟩

set_option maxRecDepth 100000 in
theorem lifted (os : Os) (started : os.Started) (H : Type) (enc : TypeId × Value → H) :
    ReturnsInHanded {} Try.checked os 7 .any (Rows.faultTellsSpec.pre6 enc Try.prog Try.f7 Rows.faultTellsRow.domain false) (Rows.faultTellsSpec.post enc Try.prog Try.f7 false true false false) := by
  refine returnsInHanded_of_change (C := Try.checked) own started (by kernel_rfl) Try.func7
    (ChangeSpec.witness6 (enc := enc) (C := Try.checked) false ⟨#[], #[.int .i64 0, .int .i64 0, .int .i64 0], []⟩ 8 (by kernel_rfl) (by kernel_rfl) (by kernel_rfl) (by kernel_rfl)) ?_
  intro W base args ds gs before hval0 hW hcnd _
  exact contract H enc W base args ds gs before hval0 hW

theorem proved : Rows.FaultTellsSaid :=
  OpenClaim.holds_of_wide 7 Try.f7 rfl rfl rfl rfl rfl rfl rfl ⟨rfl, rfl, rfl, rfl, rfl⟩ rfl rfl rfl rfl rfl (by kernel_rfl) Try.func7 (by kernel_rfl)
    (of_decide_eq_true (by kernel_rfl)) (by unfold Func.isWrapper; first | (rw [if_pos (by decide +kernel)]; kernel_rfl) | (rw [if_neg (by decide +kernel)]; exact ⟨rfl, rfl⟩))
    (fun os started H enc _ => lifted os started H enc)
#print axioms proved
end Go.Proofs.Ytjmklmcnlieplab.faultTells
