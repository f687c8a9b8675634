/-
  For all numbers that come in, a status is from 0 to 255, and is told just for the ends that have a word: the law's function returns true; the package's table of words holds at the start what the program's text lays (the card ties it).
-/
import Derived.Test.YtncjaohiimenaabDoorRends
import Derived.Test.YtncjaohiimenaabDoorTextTab
import Derived.ProofKit
import Derived.OpenShut
import Derived.Test.YtncjaohiimenaabDoorCards
import Derived.Test.YtncjaohiimenaabDoorTie
import Derived.Deep.DeepHandedRow
import Derived.Lib.LaidTab
import Derived.SizedLaws
import Derived.Deep.DeepWitnessRowRef
namespace Go.Proofs.YtncjaohiimenaabDoor.reportStatus
open Go.ChangeShapes Go.WideShapes Go.ChangeAt Go.RowKit
open Go.WideMaps Go.WideElems
open Go.ChangeMaps (open_string shut_string)
set_option maxRecDepth 100000
set_option linter.unusedVariables false

theorem own : ownKnob Tryd.prog.godebug = none := by kernel_rfl

theorem status_facts (a n : Int) : (0 ≤ stS a n ∧ stS a n < 256) ∧ enE a = stE a ∧ (stE a = 0 → ¬ (enS a).toList = []) ∧ (¬ stE a = 0 → enS a = ByteArray.empty) := by
  refine ⟨?_, rfl, fun h => ?_, fun h => ?_⟩
  · unfold stS
    split; · omega
    split; · omega
    split <;> omega
  · unfold stE at h
    by_cases ho : a < 1 ∨ 8 < a
    · rw [if_pos ho] at h; cases h
    · unfold enS
      rw [if_neg ho]
      have : ∀ k, k < 8 → ¬ (endAt k).toList = [] := by
        intro k hk
        have h8 : k = 0 ∨ k = 1 ∨ k = 2 ∨ k = 3 ∨ k = 4 ∨ k = 5 ∨ k = 6 ∨ k = 7 := by omega
        rcases h8 with rfl | rfl | rfl | rfl | rfl | rfl | rfl | rfl
        all_goals simp [endAt, endsL, ByteArray.toList_eq]
      exact this _ (by omega)
  · unfold stE at h
    unfold enS
    split
    · rfl
    · rename_i h2; rw [if_neg h2] at h; exact absurd rfl h
theorem table {W : World} (h : laidMetH Tryd.prog Rows.reportStatusRow.laid W) : EndTab W := by
  intro k hk
  have h0 : laidMet Tryd.prog Rows.reportStatusRow.laid W := h
  have h' : laidMet Tryd.prog (("panicroad/report.words", textData (endsL.map (·.data.toList))) :: _) W := h0
  have hs : (endsL.map (·.data.toList))[k]? = some (endAt k).data.toList := by
    rw [List.getElem?_map]
    unfold endAt
    rw [List.getD_eq_getElem?_getD, List.getElem?_eq_getElem (show k < endsL.length from hk)]
    rfl
  exact text_at (by kernel_rfl : Tryd.prog.globalNamed "panicroad/report.words" = some 0) (by kernel_rfl) Tryd.underlying55 Tryd.underlying9 (by kernel_rfl) (by kernel_rfl) h' k _ hs

theorem walk (a0 : Int) (a1 : Int) (w0 : (Lit.int .i64 a0).wf = true) (w1 : (Lit.int .i64 a1).wf = true)  (w : World) (ht : EndTab w) :
    Calls Tryd.prog 5 #[.int .i64 a0, .int .i64 a1] w fun e w' => e = .returned (.bool true) ∧ Below w.heap.size w w' := by
  clear w0 w1
  have HE : Hid (EndTab w) := ht
  have HV : Hid ((0 ≤ stS a0 a1 ∧ stS a0 a1 < 256) ∧ enE a0 = stE a0 ∧ (stE a0 = 0 → ¬ (enS a0).toList = []) ∧ (¬ stE a0 = 0 → enS a0 = ByteArray.empty)) := status_facts a0 a1
  go_enter Tryd.func5, Tryd.ntmps5
  go_wp2_with fail
  refine (own_status a0 a1 _).mono ?_
  rintro e u3 ⟨rfl, rfl⟩
  go_wp2_with fail
  refine (own_ending a0 _ HE.out).mono ?_
  rintro e u1 ⟨rfl, rfl⟩
  go_wp2_with fail
  refine (own_status 2 0 _).mono ?_
  rintro e u4 ⟨rfl, rfl⟩
  obtain ⟨⟨g1, g2⟩, g3, g4, g5⟩ := HV.out
  rw [g3]
  by_cases h0 : stE a0 = 0
  · have h1 : ((enS a0).toList == []) = false := by simpa using g4 h0
    generalize hS : enS a0 = S at *
    generalize stS a0 a1 = v at *
    generalize stE a0 = x at *
    subst h0
    clear g4 g5 HV
    go_wp2_with fail
    all_goals go_ret
    exact ⟨rfl, Below.refl _ _⟩
  · have hS := g5 h0
    rw [hS]
    generalize stS a0 a1 = v at *
    generalize stE a0 = x at *
    have h2 : (x == 0) = false := by simpa using h0
    clear g4 g5 HV h0 hS
    go_wp2_with fail
    all_goals go_ret
    exact ⟨rfl, Below.refl _ _⟩

theorem contract (H : Type) (enc : TypeId × Value → H) (W : World) (base : Nat) (args : Array Value) (ds gs : List (DataW H)) (before : List MemPlace)
    (hval : ∀ (j : Nat) t v, Tryd.f5.params[j]? = some t → args[j]? = some v → Value.okWide Tryd.prog W .any base t v)
    (hW : DataW.Whole enc Tryd.prog Tryd.f5.params.toList Rows.reportStatusSpec.vars false W args.toList ds gs before) (hL : laidMetH Tryd.prog Rows.reportStatusRow.laid W) :
    Calls Tryd.prog 5 args W fun e W' => ∃ v, e = .returned v ∧ Rows.reportStatusSpec.post enc Tryd.prog Tryd.f5 false true false false W args v W' := by
  have hW' := hW
  obtain ⟨p, q, hA0, hV, rfl, hfz, hnd⟩ := hW
  have hA : DataW.TrodAll enc Tryd.prog W 0 (fun _ => true) true Tryd.f5.params.toList args.toList ds p := hA0
  rw [Tryd.params5] at hA hval
  obtain ⟨v0, vs0, d0, ds0, p0, q0, hargs, rfl, rfl, h0, r0⟩ := trodAll_cons hA
  obtain ⟨v1, vs1, d1, ds1, p1, q1, rfl, rfl, rfl, h1, r1⟩ := trodAll_cons r0
  obtain ⟨rfl, rfl, rfl⟩ := trodAll_nil r1
  obtain rfl : args = #[v0, v1] := by cases args; simp_all
  obtain ⟨rfl, rfl⟩ := trodVars_none hV
  obtain ⟨a0, rfl, rfl, rfl, w0⟩ := open_int Tryd.underlying3 (hval 0 3 v0 rfl rfl) h0
  obtain ⟨a1, rfl, rfl, rfl, w1⟩ := open_int Tryd.underlying3 (hval 1 3 v1 rfl rfl) h1
  clear hA0
  simp only [List.append_nil] at hW'
  refine (walk a0 a1 w0 w1  W (table hL)).mono fun e W' ⟨he, bel⟩ => ?_
  subst he
  exact ⟨_, rfl, _, _, _, [], [], [], hW', trodAll_mk1 (shut_bool Tryd.underlying4 _), (trodAll_cons_mk (shut_int Tryd.underlying3 w0) (trodAll_cons_mk (shut_int Tryd.underlying3 w1) trodAll_mk0)), rfl, bel.frame _, fun h => by cases h⟩

noncomputable def laidWorld (os : Os) : World :=
  { World.holding Tryd.prog os ⟨#[], #[], []⟩ with heap := (World.holding Tryd.prog os ⟨#[], #[], []⟩).heap.modify 0 fun
      | .cells _ t frozen => .cells #[.string ⟨#[100, 111, 110, 101]⟩, .string ⟨#[99, 114, 97, 115, 104]⟩, .string ⟨#[101, 120, 105, 116]⟩, .string ⟨#[102, 117, 101, 108]⟩, .string ⟨#[109, 101, 109, 111, 114, 121]⟩, .string ⟨#[100, 101, 112, 116, 104]⟩, .string ⟨#[111, 117, 116, 112, 117, 116]⟩, .string ⟨#[119, 105, 108, 100]⟩] t frozen
      | o => o }
theorem laid_met (os : Os) : laidMet Tryd.prog Rows.reportStatusRow.laid ((laidWorld os).forCall (fun _ _ => 0) ⟨#[], #[.int .i64 0, .int .i64 0], []⟩).memory :=
  laidMet_of_run' 8 (by kernel_rfl) (by kernel_rfl)
theorem reads (os : Os) {H : Type} (enc : TypeId × Value → H) : ∃ places, DataW.whole enc Tryd.prog ((laidWorld os).forCall (fun _ _ => 0) ⟨#[], #[.int .i64 0, .int .i64 0], []⟩).memory Tryd.f5.params.toList Rows.reportStatusSpec.vars false #[Value.int .i64 0, Value.int .i64 0].toList 8 = some ([.lit (.int .i64 0), .lit (.int .i64 0)], [], places) :=
  ⟨[], by kernel_rfl⟩

set_option maxRecDepth 100000 in
theorem lifted (os : Os) (started : os.Started) (H : Type) (enc : TypeId × Value → H) (F : Stop.Interp) :
    ReturnsInHanded {} Tryd.checked os 5 .any ((OpenSpec.ofChange Rows.reportStatusSpec).preRow enc Tryd.prog Tryd.f5 Rows.reportStatusRow.domain false Rows.reportStatusRow.laid) (((OpenSpec.ofChange Rows.reportStatusSpec).at F).post enc Tryd.prog Tryd.f5 false true false false) := by
  obtain ⟨places, hx⟩ := reads os enc
  refine returnsInHanded_of_row (C := Tryd.checked) (s := OpenSpec.ofChange Rows.reportStatusSpec) own started (by kernel_rfl) Tryd.func5
    (witness_row_at (enc := enc) (C := Tryd.checked) false (laidWorld os) #[.int .i64 0, .int .i64 0] rfl (by kernel_rfl) (by kernel_rfl) (by kernel_rfl)
      (OpenSpec.preRow_of_cond 8 hx (by kernel_rfl) (fun k hk => by cases hk) (by kernel_rfl) (laid_met os))) ?_
  intro W base args ds gs before hval hW _ _ _ hL _ _
  exact contract H enc W base args ds gs before hval hW hL

theorem said : Rows.ReportStatusSaid :=
  OpenClaim.holds_of_cond 5 Tryd.f5 rfl rfl rfl rfl rfl rfl rfl ⟨rfl, rfl, rfl, rfl, rfl⟩ rfl rfl rfl rfl rfl (by kernel_rfl) Tryd.func5 (by kernel_rfl)
    (of_decide_eq_true (by kernel_rfl)) (by unfold Func.isWrapper; first | (rw [if_pos (by decide +kernel)]; kernel_rfl) | (rw [if_neg (by decide +kernel)]; exact ⟨rfl, rfl⟩))
    (fun os started H enc _ F => by rw [OpenClaim.pre_eq_preRow]; exact lifted os started H enc F)

theorem plain (f : FuncId) (fn : Func) (hf : Tryd.pinned.checked.prog.funcNamed "panicroad/panicroadkeep.ReportStatus" = some f) (hfn : Tryd.pinned.checked.prog.funcs[f]? = some fn) :
    true = Tryd.pinned.checked.prog.looks [] ∧ ∀ (j : Nat) t, fn.params[j]? = some t → Tryd.pinned.checked.prog.wantsStandIn t = false := by
  obtain rfl : f = 5 := Option.some.inj ((show Tryd.prog.funcNamed "panicroad/panicroadkeep.ReportStatus" = some 5 by kernel_rfl).symm.trans hf) |>.symm
  obtain rfl : fn = Tryd.f5 := (Option.some.inj (Tryd.func5.symm.trans hfn)).symm
  refine ⟨by kernel_rfl, fun j t ht => ?_⟩
  rw [Tryd.params5] at ht
  have hm := Array.mem_of_getElem? ht
  simp at hm
  subst hm
  exact (show Tryd.prog.wantsStandIn 3 = false by kernel_rfl)

theorem card : Rows.ReportStatusCardSaid :=
  Claim7.holds_tied_plain_at .later [] _ _ _ _ said (fun _ h => by cases h) (by kernel_rfl) (fun _ h => by cases h) reportStatus_row_tie rfl ⟨rfl, rfl⟩ (by kernel_rfl) rfl plain (by kernel_rfl)
#print axioms card
end Go.Proofs.YtncjaohiimenaabDoor.reportStatus
