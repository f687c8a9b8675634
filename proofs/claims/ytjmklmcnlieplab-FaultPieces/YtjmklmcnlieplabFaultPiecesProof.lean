/-
  For all bounds of a piece and every index of that piece that come in, the index is one of the whole when the piece's beginning is added: the law's function returns true.
-/
import Derived.Test.YtjmklmcnlieplabFlt2
namespace Go.Proofs.Ytjmklmcnlieplab.faultPieces
open Go.ChangeShapes Go.WideShapes Go.ChangeAt Go.RowKit
open Go.WideMaps Go.WideElems
open Go.ChangeMaps (open_string shut_string)
set_option linter.unusedVariables false

theorem own : ownKnob Try.prog.godebug = none := by kernel_rfl

theorem walk (a0 : Int) (a1 : Int) (a2 : Int) (a3 : Int) (w0 : (Lit.int .i64 a0).wf = true) (w1 : (Lit.int .i64 a1).wf = true) (w2 : (Lit.int .i64 a2).wf = true) (w3 : (Lit.int .i64 a3).wf = true)  (w : World)  :
    Calls Try.prog 5 #[.int .i64 a0, .int .i64 a1, .int .i64 a2, .int .i64 a3] w fun e w' => e = .returned (.bool true) ∧ Below w.heap.size w w' := by
  obtain ⟨l0, m0⟩ : -9223372036854775808 ≤ a0 ∧ a0 ≤ 9223372036854775807 := by
    simp [Lit.wf, IntKind.min, IntKind.max, IntKind.bits, IntKind.signed] at w0; omega
  clear w0
  obtain ⟨l1, m1⟩ : -9223372036854775808 ≤ a1 ∧ a1 ≤ 9223372036854775807 := by
    simp [Lit.wf, IntKind.min, IntKind.max, IntKind.bits, IntKind.signed] at w1; omega
  clear w1
  obtain ⟨l2, m2⟩ : -9223372036854775808 ≤ a2 ∧ a2 ≤ 9223372036854775807 := by
    simp [Lit.wf, IntKind.min, IntKind.max, IntKind.bits, IntKind.signed] at w2; omega
  clear w2
  obtain ⟨l3, m3⟩ : -9223372036854775808 ≤ a3 ∧ a3 ≤ 9223372036854775807 := by
    simp [Lit.wf, IntKind.min, IntKind.max, IntKind.bits, IntKind.signed] at w3; omega
  clear w3
  by_cases hB : 0 ≤ a0 ∧ a0 ≤ a1 ∧ a1 ≤ a2
  · obtain ⟨q1, q2, q3⟩ := hB
    have E1 : boundsF a0 a1 a2 = f0 := by unfold boundsF; rw [if_pos ⟨q1, q2, q3⟩]
    have c1 := fun w => own_bounds a0 a1 a2 w
    rw [E1] at c1
    by_cases hI : 0 ≤ a3 ∧ a3 < a1 - a0
    · obtain ⟨q4, q5⟩ := hI
      have E2 : indexF a3 (a1 - a0) = f0 := by unfold indexF; rw [if_pos ⟨q4, q5⟩]
      have c2 := fun w => own_index a3 (a1 - a0) w
      rw [E2] at c2
      have E3 : indexF (a0 + a3) a2 = f0 := by unfold indexF; rw [if_pos (by omega)]
      have c3 := fun w => own_index (a0 + a3) a2 w
      rw [E3] at c3
      have E4 : boundsF 0 (a1 - a0) a2 = f0 := by unfold boundsF; rw [if_pos (by omega)]
      have c4 := fun w => own_bounds 0 (a1 - a0) a2 w
      rw [E4] at c4
      clear E1 E2 E3 E4
      have HC : Hid ((∀ w, Calls Try.prog 14 #[.int .i64 a0, .int .i64 a1, .int .i64 a2] w fun e w' => e = .returned (fv f0) ∧ Below w.heap.size w w') ∧ (∀ w, Calls Try.prog 15 #[.int .i64 a3, .int .i64 (a1 - a0)] w fun e w' => e = .returned (fv f0) ∧ Below w.heap.size w w') ∧ (∀ w, Calls Try.prog 15 #[.int .i64 (a0 + a3), .int .i64 a2] w fun e w' => e = .returned (fv f0) ∧ Below w.heap.size w w') ∧ (∀ w, Calls Try.prog 14 #[.int .i64 0, .int .i64 (a1 - a0), .int .i64 a2] w fun e w' => e = .returned (fv f0) ∧ Below w.heap.size w w')) := ⟨c1, c2, c3, c4⟩
      clear c1 c2 c3 c4
      go_enter Try.func5, Try.ntmps5
      go_wp2_with fail
      refine (told_true _).mono ?_
      rintro e u1 ⟨rfl, b1⟩
      go_wp2_with fail
      refine (HC.out.1 _).mono ?_
      rintro e u2 ⟨rfl, b2⟩
      go_wp2_with fail
      refine (none_yes _).mono ?_
      rintro e u3 ⟨rfl, b3⟩
      go_wp2_with fail
      refine (HC.out.2.1 _).mono ?_
      rintro e u4 ⟨rfl, b4⟩
      go_wp2_with fail
      refine (none_yes _).mono ?_
      rintro e u5 ⟨rfl, b5⟩
      go_wp2_with fail
      refine (HC.out.2.2.1 _).mono ?_
      rintro e u6 ⟨rfl, b6⟩
      go_wp2_with fail
      refine (none_yes _).mono ?_
      rintro e u7 ⟨rfl, b7⟩
      go_wp2_with fail
      refine (HC.out.2.2.2 _).mono ?_
      rintro e u8 ⟨rfl, b8⟩
      go_wp2_with fail
      refine (none_yes _).mono ?_
      rintro e u9 ⟨rfl, b9⟩
      go_wp2_with fail
      all_goals go_ret
      exact ⟨rfl, ((((((((b1).trans (b2.mono (b1).size)).trans (b3.mono ((b1).trans (b2.mono (b1).size)).size)).trans (b4.mono (((b1).trans (b2.mono (b1).size)).trans (b3.mono ((b1).trans (b2.mono (b1).size)).size)).size)).trans (b5.mono ((((b1).trans (b2.mono (b1).size)).trans (b3.mono ((b1).trans (b2.mono (b1).size)).size)).trans (b4.mono (((b1).trans (b2.mono (b1).size)).trans (b3.mono ((b1).trans (b2.mono (b1).size)).size)).size)).size)).trans (b6.mono (((((b1).trans (b2.mono (b1).size)).trans (b3.mono ((b1).trans (b2.mono (b1).size)).size)).trans (b4.mono (((b1).trans (b2.mono (b1).size)).trans (b3.mono ((b1).trans (b2.mono (b1).size)).size)).size)).trans (b5.mono ((((b1).trans (b2.mono (b1).size)).trans (b3.mono ((b1).trans (b2.mono (b1).size)).size)).trans (b4.mono (((b1).trans (b2.mono (b1).size)).trans (b3.mono ((b1).trans (b2.mono (b1).size)).size)).size)).size)).size)).trans (b7.mono ((((((b1).trans (b2.mono (b1).size)).trans (b3.mono ((b1).trans (b2.mono (b1).size)).size)).trans (b4.mono (((b1).trans (b2.mono (b1).size)).trans (b3.mono ((b1).trans (b2.mono (b1).size)).size)).size)).trans (b5.mono ((((b1).trans (b2.mono (b1).size)).trans (b3.mono ((b1).trans (b2.mono (b1).size)).size)).trans (b4.mono (((b1).trans (b2.mono (b1).size)).trans (b3.mono ((b1).trans (b2.mono (b1).size)).size)).size)).size)).trans (b6.mono (((((b1).trans (b2.mono (b1).size)).trans (b3.mono ((b1).trans (b2.mono (b1).size)).size)).trans (b4.mono (((b1).trans (b2.mono (b1).size)).trans (b3.mono ((b1).trans (b2.mono (b1).size)).size)).size)).trans (b5.mono ((((b1).trans (b2.mono (b1).size)).trans (b3.mono ((b1).trans (b2.mono (b1).size)).size)).trans (b4.mono (((b1).trans (b2.mono (b1).size)).trans (b3.mono ((b1).trans (b2.mono (b1).size)).size)).size)).size)).size)).size)).trans (b8.mono (((((((b1).trans (b2.mono (b1).size)).trans (b3.mono ((b1).trans (b2.mono (b1).size)).size)).trans (b4.mono (((b1).trans (b2.mono (b1).size)).trans (b3.mono ((b1).trans (b2.mono (b1).size)).size)).size)).trans (b5.mono ((((b1).trans (b2.mono (b1).size)).trans (b3.mono ((b1).trans (b2.mono (b1).size)).size)).trans (b4.mono (((b1).trans (b2.mono (b1).size)).trans (b3.mono ((b1).trans (b2.mono (b1).size)).size)).size)).size)).trans (b6.mono (((((b1).trans (b2.mono (b1).size)).trans (b3.mono ((b1).trans (b2.mono (b1).size)).size)).trans (b4.mono (((b1).trans (b2.mono (b1).size)).trans (b3.mono ((b1).trans (b2.mono (b1).size)).size)).size)).trans (b5.mono ((((b1).trans (b2.mono (b1).size)).trans (b3.mono ((b1).trans (b2.mono (b1).size)).size)).trans (b4.mono (((b1).trans (b2.mono (b1).size)).trans (b3.mono ((b1).trans (b2.mono (b1).size)).size)).size)).size)).size)).trans (b7.mono ((((((b1).trans (b2.mono (b1).size)).trans (b3.mono ((b1).trans (b2.mono (b1).size)).size)).trans (b4.mono (((b1).trans (b2.mono (b1).size)).trans (b3.mono ((b1).trans (b2.mono (b1).size)).size)).size)).trans (b5.mono ((((b1).trans (b2.mono (b1).size)).trans (b3.mono ((b1).trans (b2.mono (b1).size)).size)).trans (b4.mono (((b1).trans (b2.mono (b1).size)).trans (b3.mono ((b1).trans (b2.mono (b1).size)).size)).size)).size)).trans (b6.mono (((((b1).trans (b2.mono (b1).size)).trans (b3.mono ((b1).trans (b2.mono (b1).size)).size)).trans (b4.mono (((b1).trans (b2.mono (b1).size)).trans (b3.mono ((b1).trans (b2.mono (b1).size)).size)).size)).trans (b5.mono ((((b1).trans (b2.mono (b1).size)).trans (b3.mono ((b1).trans (b2.mono (b1).size)).size)).trans (b4.mono (((b1).trans (b2.mono (b1).size)).trans (b3.mono ((b1).trans (b2.mono (b1).size)).size)).size)).size)).size)).size)).size)).trans (b9.mono ((((((((b1).trans (b2.mono (b1).size)).trans (b3.mono ((b1).trans (b2.mono (b1).size)).size)).trans (b4.mono (((b1).trans (b2.mono (b1).size)).trans (b3.mono ((b1).trans (b2.mono (b1).size)).size)).size)).trans (b5.mono ((((b1).trans (b2.mono (b1).size)).trans (b3.mono ((b1).trans (b2.mono (b1).size)).size)).trans (b4.mono (((b1).trans (b2.mono (b1).size)).trans (b3.mono ((b1).trans (b2.mono (b1).size)).size)).size)).size)).trans (b6.mono (((((b1).trans (b2.mono (b1).size)).trans (b3.mono ((b1).trans (b2.mono (b1).size)).size)).trans (b4.mono (((b1).trans (b2.mono (b1).size)).trans (b3.mono ((b1).trans (b2.mono (b1).size)).size)).size)).trans (b5.mono ((((b1).trans (b2.mono (b1).size)).trans (b3.mono ((b1).trans (b2.mono (b1).size)).size)).trans (b4.mono (((b1).trans (b2.mono (b1).size)).trans (b3.mono ((b1).trans (b2.mono (b1).size)).size)).size)).size)).size)).trans (b7.mono ((((((b1).trans (b2.mono (b1).size)).trans (b3.mono ((b1).trans (b2.mono (b1).size)).size)).trans (b4.mono (((b1).trans (b2.mono (b1).size)).trans (b3.mono ((b1).trans (b2.mono (b1).size)).size)).size)).trans (b5.mono ((((b1).trans (b2.mono (b1).size)).trans (b3.mono ((b1).trans (b2.mono (b1).size)).size)).trans (b4.mono (((b1).trans (b2.mono (b1).size)).trans (b3.mono ((b1).trans (b2.mono (b1).size)).size)).size)).size)).trans (b6.mono (((((b1).trans (b2.mono (b1).size)).trans (b3.mono ((b1).trans (b2.mono (b1).size)).size)).trans (b4.mono (((b1).trans (b2.mono (b1).size)).trans (b3.mono ((b1).trans (b2.mono (b1).size)).size)).size)).trans (b5.mono ((((b1).trans (b2.mono (b1).size)).trans (b3.mono ((b1).trans (b2.mono (b1).size)).size)).trans (b4.mono (((b1).trans (b2.mono (b1).size)).trans (b3.mono ((b1).trans (b2.mono (b1).size)).size)).size)).size)).size)).size)).trans (b8.mono (((((((b1).trans (b2.mono (b1).size)).trans (b3.mono ((b1).trans (b2.mono (b1).size)).size)).trans (b4.mono (((b1).trans (b2.mono (b1).size)).trans (b3.mono ((b1).trans (b2.mono (b1).size)).size)).size)).trans (b5.mono ((((b1).trans (b2.mono (b1).size)).trans (b3.mono ((b1).trans (b2.mono (b1).size)).size)).trans (b4.mono (((b1).trans (b2.mono (b1).size)).trans (b3.mono ((b1).trans (b2.mono (b1).size)).size)).size)).size)).trans (b6.mono (((((b1).trans (b2.mono (b1).size)).trans (b3.mono ((b1).trans (b2.mono (b1).size)).size)).trans (b4.mono (((b1).trans (b2.mono (b1).size)).trans (b3.mono ((b1).trans (b2.mono (b1).size)).size)).size)).trans (b5.mono ((((b1).trans (b2.mono (b1).size)).trans (b3.mono ((b1).trans (b2.mono (b1).size)).size)).trans (b4.mono (((b1).trans (b2.mono (b1).size)).trans (b3.mono ((b1).trans (b2.mono (b1).size)).size)).size)).size)).size)).trans (b7.mono ((((((b1).trans (b2.mono (b1).size)).trans (b3.mono ((b1).trans (b2.mono (b1).size)).size)).trans (b4.mono (((b1).trans (b2.mono (b1).size)).trans (b3.mono ((b1).trans (b2.mono (b1).size)).size)).size)).trans (b5.mono ((((b1).trans (b2.mono (b1).size)).trans (b3.mono ((b1).trans (b2.mono (b1).size)).size)).trans (b4.mono (((b1).trans (b2.mono (b1).size)).trans (b3.mono ((b1).trans (b2.mono (b1).size)).size)).size)).size)).trans (b6.mono (((((b1).trans (b2.mono (b1).size)).trans (b3.mono ((b1).trans (b2.mono (b1).size)).size)).trans (b4.mono (((b1).trans (b2.mono (b1).size)).trans (b3.mono ((b1).trans (b2.mono (b1).size)).size)).size)).trans (b5.mono ((((b1).trans (b2.mono (b1).size)).trans (b3.mono ((b1).trans (b2.mono (b1).size)).size)).trans (b4.mono (((b1).trans (b2.mono (b1).size)).trans (b3.mono ((b1).trans (b2.mono (b1).size)).size)).size)).size)).size)).size)).size)).size)⟩
    · have E2 : indexF a3 (a1 - a0) = ⟨1, a3, a1 - a0, 0⟩ := by unfold indexF; rw [if_neg hI]
      have c2 := fun w => own_index a3 (a1 - a0) w
      rw [E2] at c2
      have HC : Hid ((∀ w, Calls Try.prog 14 #[.int .i64 a0, .int .i64 a1, .int .i64 a2] w fun e w' => e = .returned (fv f0) ∧ Below w.heap.size w w') ∧ (∀ w, Calls Try.prog 15 #[.int .i64 a3, .int .i64 (a1 - a0)] w fun e w' => e = .returned (fv ⟨1, a3, a1 - a0, 0⟩) ∧ Below w.heap.size w w')) := ⟨c1, c2⟩
      clear E1 E2 c1 c2 hI
      go_enter Try.func5, Try.ntmps5
      go_wp2_with fail
      refine (told_true _).mono ?_
      rintro e u1 ⟨rfl, b1⟩
      go_wp2_with fail
      refine (HC.out.1 _).mono ?_
      rintro e u2 ⟨rfl, b2⟩
      go_wp2_with fail
      refine (none_yes _).mono ?_
      rintro e u3 ⟨rfl, b3⟩
      go_wp2_with fail
      refine (HC.out.2 _).mono ?_
      rintro e u4 ⟨rfl, b4⟩
      go_wp2_with fail
      refine (none_no ⟨1, a3, a1 - a0, 0⟩ (by simp) _).mono ?_
      rintro e u5 ⟨rfl, b5⟩
      go_wp2_with fail
      all_goals go_ret
      exact ⟨rfl, ((((b1).trans (b2.mono (b1).size)).trans (b3.mono ((b1).trans (b2.mono (b1).size)).size)).trans (b4.mono (((b1).trans (b2.mono (b1).size)).trans (b3.mono ((b1).trans (b2.mono (b1).size)).size)).size)).trans (b5.mono ((((b1).trans (b2.mono (b1).size)).trans (b3.mono ((b1).trans (b2.mono (b1).size)).size)).trans (b4.mono (((b1).trans (b2.mono (b1).size)).trans (b3.mono ((b1).trans (b2.mono (b1).size)).size)).size)).size)⟩
  · have E1 : boundsF a0 a1 a2 = ⟨5, a0, a1, a2⟩ := by unfold boundsF; rw [if_neg hB]
    have c1 := fun w => own_bounds a0 a1 a2 w
    rw [E1] at c1
    have HC : Hid (∀ w, Calls Try.prog 14 #[.int .i64 a0, .int .i64 a1, .int .i64 a2] w fun e w' => e = .returned (fv ⟨5, a0, a1, a2⟩) ∧ Below w.heap.size w w') := c1
    clear E1 c1 hB
    go_enter Try.func5, Try.ntmps5
    go_wp2_with fail
    refine (told_true _).mono ?_
    rintro e u1 ⟨rfl, b1⟩
    go_wp2_with fail
    refine (HC.out _).mono ?_
    rintro e u2 ⟨rfl, b2⟩
    go_wp2_with fail
    refine (none_no ⟨5, a0, a1, a2⟩ (by simp) _).mono ?_
    rintro e u3 ⟨rfl, b3⟩
    go_wp2_with fail
    all_goals go_ret
    exact ⟨rfl, ((b1).trans (b2.mono (b1).size)).trans (b3.mono ((b1).trans (b2.mono (b1).size)).size)⟩

theorem contract (H : Type) (enc : TypeId × Value → H) (W : World) (base : Nat) (args : Array Value) (ds gs : List (DataW H)) (before : List MemPlace)
    (hval : ∀ (j : Nat) t v, Try.f5.params[j]? = some t → args[j]? = some v → Value.okWide Try.prog W .any base t v)
    (hW : DataW.Whole enc Try.prog Try.f5.params.toList Rows.faultPiecesSpec.vars false W args.toList ds gs before) :
    Calls Try.prog 5 args W fun e W' => ∃ v, e = .returned v ∧ Rows.faultPiecesSpec.post enc Try.prog Try.f5 false true false false W args v W' := by
  have hW' := hW
  obtain ⟨p, q, hA0, hV, rfl, hfz, hnd⟩ := hW
  have hA : DataW.TrodAll enc Try.prog W 0 (fun _ => true) true Try.f5.params.toList args.toList ds p := hA0
  rw [Try.params5] at hA hval
  obtain ⟨v0, vs0, d0, ds0, p0, q0, hargs, rfl, rfl, h0, r0⟩ := trodAll_cons hA
  obtain ⟨v1, vs1, d1, ds1, p1, q1, rfl, rfl, rfl, h1, r1⟩ := trodAll_cons r0
  obtain ⟨v2, vs2, d2, ds2, p2, q2, rfl, rfl, rfl, h2, r2⟩ := trodAll_cons r1
  obtain ⟨v3, vs3, d3, ds3, p3, q3, rfl, rfl, rfl, h3, r3⟩ := trodAll_cons r2
  obtain ⟨rfl, rfl, rfl⟩ := trodAll_nil r3
  obtain rfl : args = #[v0, v1, v2, v3] := by cases args; simp_all
  obtain ⟨rfl, rfl⟩ := trodVars_none hV
  obtain ⟨a0, rfl, rfl, rfl, w0⟩ := open_int Try.underlying3 (hval 0 3 v0 rfl rfl) h0
  obtain ⟨a1, rfl, rfl, rfl, w1⟩ := open_int Try.underlying3 (hval 1 3 v1 rfl rfl) h1
  obtain ⟨a2, rfl, rfl, rfl, w2⟩ := open_int Try.underlying3 (hval 2 3 v2 rfl rfl) h2
  obtain ⟨a3, rfl, rfl, rfl, w3⟩ := open_int Try.underlying3 (hval 3 3 v3 rfl rfl) h3
  clear hA0
  simp only [List.append_nil] at hW'
  refine (walk a0 a1 a2 a3 w0 w1 w2 w3  W).mono fun e W' ⟨he, bel⟩ => ?_
  subst he
  exact ⟨_, rfl, _, _, _, [], [], [], hW', trodAll_mk1 (shut_bool Try.underlying4 _), (trodAll_cons_mk (shut_int Try.underlying3 w0) (trodAll_cons_mk (shut_int Try.underlying3 w1) (trodAll_cons_mk (shut_int Try.underlying3 w2) (trodAll_cons_mk (shut_int Try.underlying3 w3) trodAll_mk0)))), rfl, bel.frame _, fun h => by cases h⟩

set_option maxRecDepth 100000 in
theorem lifted (os : Os) (started : os.Started) (H : Type) (enc : TypeId × Value → H) :
    ReturnsInHanded {} Try.checked os 5 .any (Rows.faultPiecesSpec.pre6 enc Try.prog Try.f5 Rows.faultPiecesRow.domain false) (Rows.faultPiecesSpec.post enc Try.prog Try.f5 false true false false) := by
  refine returnsInHanded_of_change (C := Try.checked) own started (by kernel_rfl) Try.func5
    (ChangeSpec.witness6 (enc := enc) (C := Try.checked) false ⟨#[], #[.int .i64 0, .int .i64 0, .int .i64 0, .int .i64 0], []⟩ 8 (by kernel_rfl) (by kernel_rfl) (by kernel_rfl) (by kernel_rfl)) ?_
  intro W base args ds gs before hval0 hW hcnd _
  exact contract H enc W base args ds gs before hval0 hW

theorem proved : Rows.FaultPiecesSaid :=
  OpenClaim.holds_of_wide 5 Try.f5 rfl rfl rfl rfl rfl rfl rfl ⟨rfl, rfl, rfl, rfl, rfl⟩ rfl rfl rfl rfl rfl (by kernel_rfl) Try.func5 (by kernel_rfl)
    (of_decide_eq_true (by kernel_rfl)) (by unfold Func.isWrapper; first | (rw [if_pos (by decide +kernel)]; kernel_rfl) | (rw [if_neg (by decide +kernel)]; exact ⟨rfl, rfl⟩))
    (fun os started H enc _ => lifted os started H enc)
#print axioms proved
end Go.Proofs.Ytjmklmcnlieplab.faultPieces
